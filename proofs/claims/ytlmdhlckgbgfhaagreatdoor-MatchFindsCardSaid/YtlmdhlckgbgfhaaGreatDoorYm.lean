/- Texts that belong together: The reference parser: chains of operations. The reference parser: parts of terms; all together. The reference parser: sources. The statements' helpers: SameTerm, sign, small. The laws of match: their helper SameBinds. -/
import Derived.Test.YtlmdhlckgbgfhaaGreatDoorYl
import Derived.Test.YtlmdhlckgbgfhaaGreatDoorYb
import Derived.Test.YtlmdhlckgbgfhaaGreatDoorYj
import Derived.Test.YtlmdhlckgbgfhaaGreatDoorYc
import Derived.StillTailTactics
import Derived.Deep.QuietTactic
import Derived.BigQuiet
set_option maxRecDepth 100000
set_option maxHeartbeats 400000000
namespace Go.Proofs.YtlmdhlckgbgfhaaGreatDoor
open Go.RowKit Go.Shelf
attribute [local go_sem] Oper.semAt_some

theorem twoTerm {ok : Nat → Prop} {w : World} {g : Nat} {c0 c1 c2 c3 d0 d1 d2 d3 : Value} {t u : Tm} {k : Int} {s : ByteArray} (hg : w.heap[g]? = some (.cells #[c0, c1, c2, c3, d0, d1, d2, d3] 24 (0, 0))) (h : IsTmIn ok w c0 c1 c2 c3 t) (h' : IsTmIn ok w d0 d1 d2 d3 u) (hok : ok g) (hk : 0 ≤ k ∧ k ≤ 255) (hs : s.size ≤ maxLen) :
   IsTmIn ok w (.int .u8 k) (.int .i64 0) (.string s) (.slice (some ⟨g, 0, none⟩) 2 2) (.mk k 0 s [t, u]) := by
 unfold IsTmIn
 refine ⟨rfl, hk, rfl, i64_small (by decide) (by decide), rfl, hs, some ⟨g, 0, none⟩, 2, rfl, by unfold maxLen; simp, fun _ => ⟨g, 0, rfl, hok, ?_⟩⟩
 unfold IsTmsIn
 refine ⟨c0, c1, c2, c3, cells_at hg 0 _ rfl, cells_at hg 1 _ rfl, cells_at hg 2 _ rfl, cells_at hg 3 _ rfl, h, ?_⟩
 unfold IsTmsIn
 refine ⟨d0, d1, d2, d3, cells_at hg 4 _ rfl, cells_at hg 5 _ rfl, cells_at hg 6 _ rfl, cells_at hg 7 _ rfl, h', ?_⟩
 unfold IsTmsIn
 trivial
def TwoF (l : List Tk) (P m : Nat) (C : Array Value) (t : Tm) (w0 : World) (v : Value) (w : World) : Prop := ∃ a cap g, v = .slice (some ⟨g, 0, none⟩) 2 2 ∧ w0.heap.size ≤ g ∧
 w.heap[g]? = some (.cells (C ++ #[.int .u8 t.kind, .int .i64 t.num, .string t.name, .slice a t.args.length cap]) 24 (0, 0)) ∧
 IsTmIn (fun b => w0.heap.size ≤ b ∧ b < g) w (.int .u8 t.kind) (.int .i64 t.num) (.string t.name) (.slice a t.args.length cap) t ∧ InAt l P m w
theorem TwoF.grow {l : List Tk} {P m : Nat} {C : Array Value} {t : Tm} {w0 : World} {v : Value} {w w' : World} (h : TwoF l P m C t w0 v w) (hb : Below w.heap.size w w') : TwoF l P m C t w0 v w' := by
 obtain ⟨a, cap, g, e, h0, h1, h2, h3⟩ := h
 have hg := (gL h1)
 exact ⟨a, cap, g, e, h0, (hb.block g hg).trans h1, h2.keep fun b hf => ⟨hf, hb.block b (by omega)⟩, h3.grow hb⟩
def FCh (l : List Tk) (P m : Nat) (s : ByteArray) (c0 c1 c2 c3 : Value) (t : Tm) (w0 : World) : Facts := fun i v w => match i with
 | 0 => v = .string s
 | 1 => v = .agg #[c0, c1, c2, c3]
 | 2 => v = .pointer (some ⟨P, 0, none⟩)
 | 3 => CallF l P m t w0 v w
 | 4 => TwoF l P m #[c0, c1, c2, c3] t w0 v w
 | _ => True
theorem FCh_grow {l : List Tk} {P m : Nat} {s : ByteArray} {c0 c1 c2 c3 : Value} {t : Tm} {w0 : World} (i : Nat) (v : Value) (w w' : World) (h : FCh l P m s c0 c1 c2 c3 t w0 i v w) (hb : Below w.heap.size w w') : FCh l P m s c0 c1 c2 c3 t w0 i v w' := by
 match i, h with
 | 0, h => exact h
 | 1, h => exact h
 | 2, h => exact h
 | 3, h => exact CallF.grow h hb
 | 4, h => exact TwoF.grow h hb
 | _ + 5, _ => trivial
structure ChI (l : List Tk) (P T : Nat) (next : Nat → Option (Tm × Nat)) (is : Nat → Bool) (u : Tm) (m : Nat) (W W1 : World) (k : Nat) (t : Tm) (i : Nat) (a : Option Addr) (c : Nat) (wr : World) : Prop where
 eq : chainP next is l k i t = some (u, m)
 ia : InAt l P i wr
 box : wr.heap[T]? = some (.cells #[.int .u8 t.kind, .int .i64 t.num, .string t.name, .slice a t.args.length c] 24 (0, 0))
 res : wr.heap[W.heap.size]? = some (.cells #[.int .u8 0, .int .i64 0, .string ⟨#[]⟩, .slice none 0 0] 24 (0, 0))
 tm : IsTmIn (fun b => W1.heap.size ≤ b ∧ b < wr.heap.size ∧ b ≠ T) wr (.int .u8 t.kind) (.int .i64 t.num) (.string t.name) (.slice a t.args.length c) t
 on : On P W wr
theorem sum_chain {l : List Tk} {P f : Nat} (hf : PC l P 176 (fun i => productP f l i)) {n : Nat} {W : World} (h : InAt l P n W) {t0 : Tm} {m0 : Nat} (h0 : productP f l n = some (t0, m0)) {u : Tm} {m : Nat} (hc : chainP (fun i => productP f l i) (addAt l) l f m0 t0 = some (u, m)) :
   Calls Tryz.prog 150 #[.pointer (some ⟨P, 0, none⟩)] W (PPost l P m u W) := by
 obtain ⟨W1, hW1, hr1, hb1, hz1⟩ := rowTerm W (.int .u8 0) (.int .i64 0) (.string ⟨#[]⟩) (.slice none 0 0)
 have HK := Hi (hf _ _ _ W1 (h.grow hb1) h0)
 have HPS := Hi (fun i => pt_size h.ok i)
 have HOKL := Hi h.ok.1
 have HR1 := Hi hr1
 have HB1 := Hi hb1
 have HP := Hi h.lt
 have HZ1 := Hi hz1
 have HF := Hi hf
 have HC := Hi hc
 clear h hf hc h0 hr1 hb1 hz1
 go_enter Tryz.func150, Tryz.ntmps150
 go_wp2_with (first
   | (go_at_call 176; refine HK.out.mono ?_; clear HK; rintro e W2 ⟨⟨a2, c2, rfl, ht2⟩, hI2, hO2⟩
      obtain ⟨W3, hW3, hr3, hb3, hz3⟩ := rowTerm W2 (.int .u8 t0.kind) (.int .i64 t0.num) (.string t0.name) (.slice a2 t0.args.length c2)
      have HO3 := Hi (hO2.trans (On.of_below hb3))
      have HZ2 := Hi (And.intro hI2.lt hO2.size)
      have HCI := Hi (show ChI l P W2.heap.size (fun i => productP f l i) (addAt l) u m W W1 f t0 m0 a2 c2 W3 from ⟨HC.out, hI2.grow hb3, hr3, (hO2.trans (On.of_below hb3)).row HR1.out (by have := HP.out; omega), ht2.keep fun b hf => ⟨⟨hf.1, by omega, by omega⟩, hb3.block b hf.2⟩, (On.of_below HB1.out).trans (hO2.trans (On.of_below hb3))⟩)
      have HW3 := Hi hW3
      clear ht2 hI2 hO2 hr3 hb3 hz3 hW3))
 obtain ⟨T, hT⟩ : ∃ T, W2.heap.size = T := ⟨_, rfl⟩
 rw [HW3.out]
 rw [hT] at HCI HZ2 ⊢
 clear hT HW3
 go_loopg [4] f (fun k _ wr => ∃ (t : Tm) (i : Nat) (a : Option Addr) (c : Nat), ChI l P T (fun i => productP f l i) (addAt l) u m W W1 k t i a c wr)
 case atStart => exact ⟨t0, m0, a2, c2, HCI.out⟩
 case round =>
   obtain ⟨t, i, a, c, hA⟩ := hrel
   cases gk with
   | zero => have := hA.eq; simp [chainP] at this
   | succ k =>
   have heq := hA.eq
   simp only [chainP] at heq
   have HARG := Hi hA
   have HEQ := Hi heq
   have q0 := cells_at hA.box 0 _ rfl
   have q1 := cells_at hA.box 1 _ rfl
   have q2 := cells_at hA.box 2 _ rfl
   have q3 := cells_at hA.box 3 _ rfl
   have HSB : Hid (Below wr.heap.size wr wr) := Hi bR
   have HSA := Hi (fun (s : ByteArray) (Wx : World) (hx : Below wr.heap.size wr Wx) => sees_any (hA.ia.grow hx) s)
   clear hA heq
   obtain ⟨D1, hD1⟩ : ∃ D, seesL l i ⟨#[43]⟩ = D := ⟨_, rfl⟩
   cases D1 with
   | true =>
     have HD1 := Hi hD1
     clear hD1
     have hfd := tok_field1
     have hmm : addAt l i = true := by unfold addAt; simp [HD1.out]
     have HLT := Hi (sees_pos (l := l) (n := i) HD1.out)
     obtain ⟨s, hst⟩ : ∃ s, pt l i = s := ⟨_, rfl⟩
     have HST := Hi hst
     have HSZ : Hid (s.size ≤ maxLen) := Hi (by rw [← hst]; exact HPS.out i)
     have heq := HEQ.out
     rw [hmm, if_pos rfl, hst] at heq
     cases hpi : productP f l (i + 1) with
     | none => rw [hpi] at heq; cases heq
     | some x =>
     obtain ⟨u1, m1⟩ := x
     rw [hpi] at heq
     simp only at heq
     have HPI := Hi hpi
     have HEQ2 := Hi heq
     have hilt : i < 40000 := by have := HLT.out; have := HOKL.out; omega
     have hw : IntKind.i64.wrap ((i : Int) + 1) = (i : Int) + 1 := IntWalk.i64_in _ (by omega)
     clear heq hpi hmm hst HEQ
     go_wp2_with (first
         | (go_at_call 178; have hhe := here_any (HARG.out.ia.grow HSB1.out); rw [HST.out] at hhe; refine hhe.mono ?_; clear hhe; rintro e V8 ⟨⟨A, rfl⟩, hV8⟩
            have hI8 := (HARG.out.ia.grow HSB1.out).grow hV8
            obtain ⟨_, _, _, _, p1, _, _, _⟩ := hI8.cells
            have hff := hI8.frozen
            obtain ⟨W6, hW6, hI6, hO6⟩ := hI8.step HLT.out
            have HI6 := Hi hI6
            have HO6 := Hi (((On.of_below (P := P) HSB1.out).trans (On.of_below hV8)).trans hO6)
            clear hV8 hI8 hI6 hO6)
         | (go_at_call 177; have hsee := HSA.out ⟨#[43]⟩ _ HSB.out; rw [HD1.out] at hsee; refine hsee.mono ?_; clear hsee; rintro e V1 ⟨rfl, hV1⟩; have HSB1 := Hi (HSB.out.trans (hV1.mono HSB.out.size)); clear hV1 HSB))
     have HTP : Hid (T ≠ P) := Hi (by have := HZ2.out.1; omega)
     refine wp_region_rel_tail (by kernel_rfl) 5 3 (On P) (fun _ _ h => On.of_below h) (fun _ _ _ h k => h.trans k) (fun _ _ h => h.size) (by decide) (FCh l P m1 s (.int .u8 t.kind) (.int .i64 t.num) (.string t.name) (.slice a t.args.length c) u1 W6) (by kernel_rfl) (by kernel_rfl) (steps_toR ?_) ?_
     · simp only [List.take_succ_cons, List.take_zero]
       refine ⟨?_, ?_, ?_, ?_, ?_, trivial⟩
       · intro ac wx hb he hd hs ho hp
         refine ⟨rfl, ?_⟩
         have h4 : ac.tmps.getD 4 undef = .string s := (ho 4 (by kernel_rfl)).trans rfl
         unfold Oper.wp
         go_simp
         exact SteppedR.at (v := .string s) (by first | rfl | simp) hd (show (0 : Nat) ≠ 3 by decide) bR rfl FCh_grow
       · intro ac wx hb he hd hs ho hp
         refine ⟨rfl, ?_⟩
         have h3 : ac.tmps.getD 3 undef = .pointer (some ⟨T, 0, none⟩) := (ho 3 (by kernel_rfl)).trans rfl
         have hx := (HO6.out.trans hb).row HARG.out.box HTP.out
         have x0 := cells_at hx 0 _ rfl
         have x1 := cells_at hx 1 _ rfl
         have x2 := cells_at hx 2 _ rfl
         have x3 := cells_at hx 3 _ rfl
         unfold Oper.wp
         go_simp
         exact SteppedR.at (v := .agg #[.int .u8 t.kind, .int .i64 t.num, .string t.name, .slice a t.args.length c]) (by first | rfl | simp) hd (show (1 : Nat) ≠ 3 by decide) bR rfl FCh_grow
       · intro ac wx hb he hd hs ho hp
         refine ⟨rfl, ?_⟩
         have h0 : ac.tmps.getD 0 undef = .pointer (some ⟨P, 0, none⟩) := (ho 0 (by kernel_rfl)).trans rfl
         unfold Oper.wp
         go_simp
         exact SteppedR.at (v := .pointer (some ⟨P, 0, none⟩)) (by first | rfl | simp) hd (show (2 : Nat) ≠ 3 by decide) bR rfl FCh_grow
       · intro ac wx hb he hd hs ho hp
         refine ⟨rfl, ?_⟩
         have h2 : ac.tmps.getD 25 undef = .pointer (some ⟨P, 0, none⟩) := facts_at hp 2 25 (by kernel_rfl)
         have hbe := he (Or.inl rfl)
         have hx := HF.out (i + 1) u1 m1 wx (HI6.out.grow hbe) HPI.out
         unfold Oper.wp
         go_simp
         go_at_call 176
         refine hx.mono ?_
         rintro e w' ⟨⟨a', cap', rfl, ht'⟩, hI', hO'⟩
         refine SteppedR.call (by first | rfl | simp) hd rfl hO' ⟨a', cap', rfl, ht'.keep fun b hf => ⟨⟨by have := hbe.size; omega, hf.2⟩, rfl⟩, hI'⟩ ?_
         intro j u hne hw hj
         match j, hj with
         | 0, h => exact h
         | 1, h => exact h
         | 2, h => exact h
         | 3, _ => exact absurd rfl hne
         | 4, _ => exact absurd (hw.symm.trans (by kernel_rfl)) Bool.false_ne_true
         | _ + 5, _ => trivial
       · intro ac wx hb he hd hs ho hp
         refine ⟨rfl, ?_⟩
         have h1 : ac.tmps.getD 24 undef = .agg #[.int .u8 t.kind, .int .i64 t.num, .string t.name, .slice a t.args.length c] := facts_at hp 1 24 (by kernel_rfl)
         obtain ⟨a20, c20, h20, ht20, hI20⟩ : CallF l P m1 u1 W6 (ac.tmps.getD 26 undef) wx := facts_at hp 3 26 (by kernel_rfl)
         have s1 := qslot_of (hs.trans (show _ = 30 from rfl)) (by decide) h1
         have s20 := qslot_of (hs.trans (show _ = 30 from rfl)) (by decide) h20
         unfold Oper.wp
         go_simp
         refine SteppedR.at rfl hd (show (4 : Nat) ≠ 3 by decide) (bR.alloc (Nat.le_refl _) _) ⟨a20, c20, wx.heap.size, rfl, hb.size, World.alloc_heap_new _ _, ht20.keep fun b hf => ⟨⟨hf.1, hf.2⟩, Below.heap_alloc _ _ _ hf.2⟩, hI20.grow (bR.alloc (Nat.le_refl _) _)⟩ FCh_grow
     · intro ac wz hbz hd hs2 ho2 hf
       have k0 : ac.tmps.getD 23 undef = .string s := facts_toR hf 0 23 (by decide) (by kernel_rfl)
       have k1 : ac.tmps.getD 24 undef = .agg #[.int .u8 t.kind, .int .i64 t.num, .string t.name, .slice a t.args.length c] := facts_toR hf 1 24 (by decide) (by kernel_rfl)
       have k2 : ac.tmps.getD 25 undef = .pointer (some ⟨P, 0, none⟩) := facts_toR hf 2 25 (by decide) (by kernel_rfl)
       obtain ⟨a21, c21, g21, k4, hg21, hr21, ht21, hI21⟩ : TwoF l P m1 #[.int .u8 t.kind, .int .i64 t.num, .string t.name, .slice a t.args.length c] u1 W6 (ac.tmps.getD 27 undef) wz := facts_toR hf 4 27 (by decide) (by kernel_rfl)
       obtain ⟨u3, k3⟩ : ∃ u, ac.tmps.getD 26 undef = u := ⟨_, rfl⟩
       have hE := slots_mergeR [false, false, false, false, false, false, false, false, false, false, false, false, false, false, false, false, false, false, false, false, false, false, false, true, true, true, true, true, false, false] 30 hs2 rfl (by kernel_rfl) ho2
       simp only [mergeFrom, Nat.zero_add, Nat.reduceAdd, k0, k1, k2, k3, k4] at hE
       obtain ⟨TT, DD⟩ := ac
       simp only at hE hd
       subst hd hE
       clear k0 k1 k2 k3 k4 hf hs2 ho2
       simp only [List.drop_succ_cons, List.drop_zero]
       have hOz := HO6.out.trans hbz
       have hbox := hOz.row HARG.out.box HTP.out
       have hres := hOz.row HARG.out.res (by have := HP.out; omega)
       have hgT : g21 ≠ T := by have := (gL HARG.out.box); have := HO6.out.size; omega
       have hgl := (gL hr21)
       have hsz1 : W1.heap.size ≤ wr.heap.size := by have := (gL HARG.out.box); have := HZ2.out.2; omega
       have hok1 : IsTmIn (fun b => W1.heap.size ≤ b ∧ b < wz.heap.size ∧ b ≠ T) wz (.int .u8 t.kind) (.int .i64 t.num) (.string t.name) (.slice a t.args.length c) t := HARG.out.tm.keep fun b hf => ⟨⟨hf.1, Nat.lt_of_lt_of_le hf.2.1 hOz.size, hf.2.2⟩, hOz.block b hf.2.1 (by have := HZ1.out; have := HP.out; have := hf.1; omega)⟩
       have hok2 : IsTmIn (fun b => W1.heap.size ≤ b ∧ b < wz.heap.size ∧ b ≠ T) wz _ _ _ _ u1 := ht21.keep fun b hf => ⟨⟨by have := HO6.out.size; omega, by omega, by have := (gL HARG.out.box); have := HO6.out.size; omega⟩, rfl⟩
       have hnew := twoTerm (k := 5) (s := s) (ok := fun b => W1.heap.size ≤ b ∧ b < wz.heap.size ∧ b ≠ T) hr21 hok1 hok2 ⟨by have := HO6.out.size; omega, hgl, hgT⟩ (by decide) HSZ.out
       have H5 := Hi (And.intro hbox (And.intro hres (And.intro hnew (And.intro hI21 (And.intro hOz hgT)))))
       clear hbox hres hnew hI21 hOz hgT hok1 hok2 ht21 hgl hsz1 hbz hg21 hr21
       go_wp2_with (go_at_call 179; refine (opnew_any s _ _ _ wz).mono ?_; rintro e W8 ⟨rfl, hB8⟩; have hb8 := (hB8.block T (gL H5.out.1)).trans H5.out.1; have x0 := cells_at hb8 0 _ rfl; have x1 := cells_at hb8 1 _ rfl; have x2 := cells_at hb8 2 _ rfl; have x3 := cells_at hb8 3 _ rfl; have hfz := row_frozen hb8; obtain ⟨W9, hW9, hr9, hb9, hz9, hk9⟩ := setTerm W8 T _ _ _ _ (.int .u8 5) (.int .i64 0) (.string s) (.slice (some ⟨g21, 0, none⟩) 2 2) _ hb8; have H9 := Hi (And.intro hr9 (And.intro hb9 (And.intro hz9 hk9))); have HB8 := Hi hB8; clear hB8 hb8 hr9 hb9 hz9 hk9)
       go_roundg k
       case measure => omega
       case rel =>
         obtain ⟨h1, h2, h3, h4, h5, h6⟩ := H5.out
         obtain ⟨hr9, hb9, hz9, hk9⟩ := H9.out
         have hTW : W.heap.size < T := by have := HZ2.out.2; have := HZ1.out; omega
         have hB8 := HB8.out
         exact ⟨opT s [t, u1], m1, some ⟨g21, 0, none⟩, 2, ⟨HEQ2.out, (h4.grow hB8).below hb9 HZ2.out.1, hr9, (hk9 W.heap.size (by omega)).trans ((hB8.block _ (gL h2)).trans h2), h3.keep fun b hf => ⟨⟨hf.1, by rw [hz9]; exact Nat.lt_of_lt_of_le hf.2.1 hB8.size, hf.2.2⟩, (hk9 b hf.2.2).trans (hB8.block b hf.2.1)⟩, ((HARG.out.on.trans h5).trans (On.of_below hB8)).fresh hb9 (by omega)⟩⟩
   | false =>
   have HD1 := Hi hD1
   clear hD1
   obtain ⟨D2, hD2⟩ : ∃ D, seesL l i ⟨#[45]⟩ = D := ⟨_, rfl⟩
   cases D2 with
   | true =>
     have HD2 := Hi hD2
     clear hD2
     have hfd := tok_field1
     have hmm : addAt l i = true := by unfold addAt; simp [HD1.out, HD2.out]
     have HLT := Hi (sees_pos (l := l) (n := i) HD2.out)
     obtain ⟨s, hst⟩ : ∃ s, pt l i = s := ⟨_, rfl⟩
     have HST := Hi hst
     have HSZ : Hid (s.size ≤ maxLen) := Hi (by rw [← hst]; exact HPS.out i)
     have heq := HEQ.out
     rw [hmm, if_pos rfl, hst] at heq
     cases hpi : productP f l (i + 1) with
     | none => rw [hpi] at heq; cases heq
     | some x =>
     obtain ⟨u1, m1⟩ := x
     rw [hpi] at heq
     simp only at heq
     have HPI := Hi hpi
     have HEQ2 := Hi heq
     have hilt : i < 40000 := by have := HLT.out; have := HOKL.out; omega
     have hw : IntKind.i64.wrap ((i : Int) + 1) = (i : Int) + 1 := IntWalk.i64_in _ (by omega)
     clear heq hpi hmm hst HEQ
     go_wp2_with (first
         | (go_at_call 178; have hhe := here_any (HARG.out.ia.grow HSB2.out); rw [HST.out] at hhe; refine hhe.mono ?_; clear hhe; rintro e V8 ⟨⟨A, rfl⟩, hV8⟩
            have hI8 := (HARG.out.ia.grow HSB2.out).grow hV8
            obtain ⟨_, _, _, _, p1, _, _, _⟩ := hI8.cells
            have hff := hI8.frozen
            obtain ⟨W6, hW6, hI6, hO6⟩ := hI8.step HLT.out
            have HI6 := Hi hI6
            have HO6 := Hi (((On.of_below (P := P) HSB2.out).trans (On.of_below hV8)).trans hO6)
            clear hV8 hI8 hI6 hO6)
         | (go_at_call 177; have hsee := HSA.out ⟨#[45]⟩ _ HSB1.out; rw [HD2.out] at hsee; refine hsee.mono ?_; clear hsee; rintro e V2 ⟨rfl, hV2⟩; have HSB2 := Hi (HSB1.out.trans (hV2.mono HSB1.out.size)); clear hV2 HSB1)
         | (go_at_call 177; have hsee := HSA.out ⟨#[43]⟩ _ HSB.out; rw [HD1.out] at hsee; refine hsee.mono ?_; clear hsee; rintro e V1 ⟨rfl, hV1⟩; have HSB1 := Hi (HSB.out.trans (hV1.mono HSB.out.size)); clear hV1 HSB))
     have HTP : Hid (T ≠ P) := Hi (by have := HZ2.out.1; omega)
     refine wp_region_rel_tail (by kernel_rfl) 5 3 (On P) (fun _ _ h => On.of_below h) (fun _ _ _ h k => h.trans k) (fun _ _ h => h.size) (by decide) (FCh l P m1 s (.int .u8 t.kind) (.int .i64 t.num) (.string t.name) (.slice a t.args.length c) u1 W6) (by kernel_rfl) (by kernel_rfl) (steps_toR ?_) ?_
     · simp only [List.take_succ_cons, List.take_zero]
       refine ⟨?_, ?_, ?_, ?_, ?_, trivial⟩
       · intro ac wx hb he hd hs ho hp
         refine ⟨rfl, ?_⟩
         have h4 : ac.tmps.getD 4 undef = .string s := (ho 4 (by kernel_rfl)).trans rfl
         unfold Oper.wp
         go_simp
         exact SteppedR.at (v := .string s) (by first | rfl | simp) hd (show (0 : Nat) ≠ 3 by decide) bR rfl FCh_grow
       · intro ac wx hb he hd hs ho hp
         refine ⟨rfl, ?_⟩
         have h3 : ac.tmps.getD 3 undef = .pointer (some ⟨T, 0, none⟩) := (ho 3 (by kernel_rfl)).trans rfl
         have hx := (HO6.out.trans hb).row HARG.out.box HTP.out
         have x0 := cells_at hx 0 _ rfl
         have x1 := cells_at hx 1 _ rfl
         have x2 := cells_at hx 2 _ rfl
         have x3 := cells_at hx 3 _ rfl
         unfold Oper.wp
         go_simp
         exact SteppedR.at (v := .agg #[.int .u8 t.kind, .int .i64 t.num, .string t.name, .slice a t.args.length c]) (by first | rfl | simp) hd (show (1 : Nat) ≠ 3 by decide) bR rfl FCh_grow
       · intro ac wx hb he hd hs ho hp
         refine ⟨rfl, ?_⟩
         have h0 : ac.tmps.getD 0 undef = .pointer (some ⟨P, 0, none⟩) := (ho 0 (by kernel_rfl)).trans rfl
         unfold Oper.wp
         go_simp
         exact SteppedR.at (v := .pointer (some ⟨P, 0, none⟩)) (by first | rfl | simp) hd (show (2 : Nat) ≠ 3 by decide) bR rfl FCh_grow
       · intro ac wx hb he hd hs ho hp
         refine ⟨rfl, ?_⟩
         have h2 : ac.tmps.getD 25 undef = .pointer (some ⟨P, 0, none⟩) := facts_at hp 2 25 (by kernel_rfl)
         have hbe := he (Or.inl rfl)
         have hx := HF.out (i + 1) u1 m1 wx (HI6.out.grow hbe) HPI.out
         unfold Oper.wp
         go_simp
         go_at_call 176
         refine hx.mono ?_
         rintro e w' ⟨⟨a', cap', rfl, ht'⟩, hI', hO'⟩
         refine SteppedR.call (by first | rfl | simp) hd rfl hO' ⟨a', cap', rfl, ht'.keep fun b hf => ⟨⟨by have := hbe.size; omega, hf.2⟩, rfl⟩, hI'⟩ ?_
         intro j u hne hw hj
         match j, hj with
         | 0, h => exact h
         | 1, h => exact h
         | 2, h => exact h
         | 3, _ => exact absurd rfl hne
         | 4, _ => exact absurd (hw.symm.trans (by kernel_rfl)) Bool.false_ne_true
         | _ + 5, _ => trivial
       · intro ac wx hb he hd hs ho hp
         refine ⟨rfl, ?_⟩
         have h1 : ac.tmps.getD 24 undef = .agg #[.int .u8 t.kind, .int .i64 t.num, .string t.name, .slice a t.args.length c] := facts_at hp 1 24 (by kernel_rfl)
         obtain ⟨a20, c20, h20, ht20, hI20⟩ : CallF l P m1 u1 W6 (ac.tmps.getD 26 undef) wx := facts_at hp 3 26 (by kernel_rfl)
         have s1 := qslot_of (hs.trans (show _ = 30 from rfl)) (by decide) h1
         have s20 := qslot_of (hs.trans (show _ = 30 from rfl)) (by decide) h20
         unfold Oper.wp
         go_simp
         refine SteppedR.at rfl hd (show (4 : Nat) ≠ 3 by decide) (bR.alloc (Nat.le_refl _) _) ⟨a20, c20, wx.heap.size, rfl, hb.size, World.alloc_heap_new _ _, ht20.keep fun b hf => ⟨⟨hf.1, hf.2⟩, Below.heap_alloc _ _ _ hf.2⟩, hI20.grow (bR.alloc (Nat.le_refl _) _)⟩ FCh_grow
     · intro ac wz hbz hd hs2 ho2 hf
       have k0 : ac.tmps.getD 23 undef = .string s := facts_toR hf 0 23 (by decide) (by kernel_rfl)
       have k1 : ac.tmps.getD 24 undef = .agg #[.int .u8 t.kind, .int .i64 t.num, .string t.name, .slice a t.args.length c] := facts_toR hf 1 24 (by decide) (by kernel_rfl)
       have k2 : ac.tmps.getD 25 undef = .pointer (some ⟨P, 0, none⟩) := facts_toR hf 2 25 (by decide) (by kernel_rfl)
       obtain ⟨a21, c21, g21, k4, hg21, hr21, ht21, hI21⟩ : TwoF l P m1 #[.int .u8 t.kind, .int .i64 t.num, .string t.name, .slice a t.args.length c] u1 W6 (ac.tmps.getD 27 undef) wz := facts_toR hf 4 27 (by decide) (by kernel_rfl)
       obtain ⟨u3, k3⟩ : ∃ u, ac.tmps.getD 26 undef = u := ⟨_, rfl⟩
       have hE := slots_mergeR [false, false, false, false, false, false, false, false, false, false, false, false, false, false, false, false, false, false, false, false, false, false, false, true, true, true, true, true, false, false] 30 hs2 rfl (by kernel_rfl) ho2
       simp only [mergeFrom, Nat.zero_add, Nat.reduceAdd, k0, k1, k2, k3, k4] at hE
       obtain ⟨TT, DD⟩ := ac
       simp only at hE hd
       subst hd hE
       clear k0 k1 k2 k3 k4 hf hs2 ho2
       simp only [List.drop_succ_cons, List.drop_zero]
       have hOz := HO6.out.trans hbz
       have hbox := hOz.row HARG.out.box HTP.out
       have hres := hOz.row HARG.out.res (by have := HP.out; omega)
       have hgT : g21 ≠ T := by have := (gL HARG.out.box); have := HO6.out.size; omega
       have hgl := (gL hr21)
       have hsz1 : W1.heap.size ≤ wr.heap.size := by have := (gL HARG.out.box); have := HZ2.out.2; omega
       have hok1 : IsTmIn (fun b => W1.heap.size ≤ b ∧ b < wz.heap.size ∧ b ≠ T) wz (.int .u8 t.kind) (.int .i64 t.num) (.string t.name) (.slice a t.args.length c) t := HARG.out.tm.keep fun b hf => ⟨⟨hf.1, Nat.lt_of_lt_of_le hf.2.1 hOz.size, hf.2.2⟩, hOz.block b hf.2.1 (by have := HZ1.out; have := HP.out; have := hf.1; omega)⟩
       have hok2 : IsTmIn (fun b => W1.heap.size ≤ b ∧ b < wz.heap.size ∧ b ≠ T) wz _ _ _ _ u1 := ht21.keep fun b hf => ⟨⟨by have := HO6.out.size; omega, by omega, by have := (gL HARG.out.box); have := HO6.out.size; omega⟩, rfl⟩
       have hnew := twoTerm (k := 5) (s := s) (ok := fun b => W1.heap.size ≤ b ∧ b < wz.heap.size ∧ b ≠ T) hr21 hok1 hok2 ⟨by have := HO6.out.size; omega, hgl, hgT⟩ (by decide) HSZ.out
       have H5 := Hi (And.intro hbox (And.intro hres (And.intro hnew (And.intro hI21 (And.intro hOz hgT)))))
       clear hbox hres hnew hI21 hOz hgT hok1 hok2 ht21 hgl hsz1 hbz hg21 hr21
       go_wp2_with (go_at_call 179; refine (opnew_any s _ _ _ wz).mono ?_; rintro e W8 ⟨rfl, hB8⟩; have hb8 := (hB8.block T (gL H5.out.1)).trans H5.out.1; have x0 := cells_at hb8 0 _ rfl; have x1 := cells_at hb8 1 _ rfl; have x2 := cells_at hb8 2 _ rfl; have x3 := cells_at hb8 3 _ rfl; have hfz := row_frozen hb8; obtain ⟨W9, hW9, hr9, hb9, hz9, hk9⟩ := setTerm W8 T _ _ _ _ (.int .u8 5) (.int .i64 0) (.string s) (.slice (some ⟨g21, 0, none⟩) 2 2) _ hb8; have H9 := Hi (And.intro hr9 (And.intro hb9 (And.intro hz9 hk9))); have HB8 := Hi hB8; clear hB8 hb8 hr9 hb9 hz9 hk9)
       go_roundg k
       case measure => omega
       case rel =>
         obtain ⟨h1, h2, h3, h4, h5, h6⟩ := H5.out
         obtain ⟨hr9, hb9, hz9, hk9⟩ := H9.out
         have hTW : W.heap.size < T := by have := HZ2.out.2; have := HZ1.out; omega
         have hB8 := HB8.out
         exact ⟨opT s [t, u1], m1, some ⟨g21, 0, none⟩, 2, ⟨HEQ2.out, (h4.grow hB8).below hb9 HZ2.out.1, hr9, (hk9 W.heap.size (by omega)).trans ((hB8.block _ (gL h2)).trans h2), h3.keep fun b hf => ⟨⟨hf.1, by rw [hz9]; exact Nat.lt_of_lt_of_le hf.2.1 hB8.size, hf.2.2⟩, (hk9 b hf.2.2).trans (hB8.block b hf.2.1)⟩, ((HARG.out.on.trans h5).trans (On.of_below hB8)).fresh hb9 (by omega)⟩⟩
   | false =>
   have HD2 := Hi hD2
   clear hD2
   have hmm : addAt l i = false := by unfold addAt; simp [HD1.out, HD2.out]
   have heq := HEQ.out
   rw [hmm, if_neg Bool.false_ne_true] at heq
   simp only [Option.some.injEq, Prod.mk.injEq] at heq
   obtain ⟨rfl, rfl⟩ := heq
   clear hmm HEQ
   go_wp2_with (first
     | (go_at_call 177; have hsee := HSA.out ⟨#[45]⟩ _ HSB1.out; rw [HD2.out] at hsee; refine hsee.mono ?_; clear hsee; rintro e V2 ⟨rfl, hV2⟩; have HSB2 := Hi (HSB1.out.trans (hV2.mono HSB1.out.size)); clear hV2 HSB1; have hO := On.of_below (P := P) HSB2.out; have hbx := hO.row HARG.out.box (by have := HZ2.out.1; omega); have z0 := cells_at hbx 0 _ rfl; have z1 := cells_at hbx 1 _ rfl; have z2 := cells_at hbx 2 _ rfl; have z3 := cells_at hbx 3 _ rfl; have hro := hO.row HARG.out.res (by have := HP.out; omega); have o0 := cells_at hro 0 _ rfl; have o1 := cells_at hro 1 _ rfl; have o2 := cells_at hro 2 _ rfl; have o3 := cells_at hro 3 _ rfl; have hff := row_frozen hro; obtain ⟨W9, hW9, hr9, hb9, hz9, hk9⟩ := setTerm V2 W.heap.size _ _ _ _ (.int .u8 t.kind) (.int .i64 t.num) (.string t.name) (.slice a t.args.length c) _ hro; have HR9 := Hi hr9; have HB9 := Hi (And.intro hb9 (And.intro hz9 hk9)); have HO := Hi hO; clear hbx hro hr9 hb9 hz9 hk9 hO)
     | (go_at_call 177; have hsee := HSA.out ⟨#[43]⟩ _ HSB.out; rw [HD1.out] at hsee; refine hsee.mono ?_; clear hsee; rintro e V1 ⟨rfl, hV1⟩; have HSB1 := Hi (HSB.out.trans (hV1.mono HSB.out.size)); clear hV1 HSB))
   refine bodyPost_ret (v := .agg #[.int .u8 t.kind, .int .i64 t.num, .string t.name, .slice a t.args.length c]) (by simp [results, Tryz.f150, go_sem, cells_at HR9.out 0 _ rfl, cells_at HR9.out 1 _ rfl, cells_at HR9.out 2 _ rfl, cells_at HR9.out 3 _ rfl]) rfl ?_
   obtain ⟨hb9, hz9, hk9⟩ := HB9.out
   exact ⟨⟨_, _, rfl, HARG.out.tm.keep fun b hf => ⟨⟨by have := HZ1.out; omega, by rw [hz9]; exact Nat.lt_of_lt_of_le hf.2.1 HO.out.size⟩, (hk9 b (by have := HZ1.out; omega)).trans (HO.out.block b hf.2.1 (by have := HP.out; have := HZ1.out; omega))⟩⟩, (HARG.out.ia.grow HSB2.out).below (hb9.mono (Nat.le_refl _)) HP.out, (HARG.out.on.trans HO.out).fresh hb9 (Nat.le_refl _)⟩
theorem product_chain {l : List Tk} {P f : Nat} (hf : PC l P 202 (fun i => factorP f l i)) {n : Nat} {W : World} (h : InAt l P n W) {t0 : Tm} {m0 : Nat} (h0 : factorP f l n = some (t0, m0)) {u : Tm} {m : Nat} (hc : chainP (fun i => factorP f l i) (mulAt l) l f m0 t0 = some (u, m)) :
   Calls Tryz.prog 176 #[.pointer (some ⟨P, 0, none⟩)] W (PPost l P m u W) := by
 obtain ⟨W1, hW1, hr1, hb1, hz1⟩ := rowTerm W (.int .u8 0) (.int .i64 0) (.string ⟨#[]⟩) (.slice none 0 0)
 have HK := Hi (hf _ _ _ W1 (h.grow hb1) h0)
 have HPS := Hi (fun i => pt_size h.ok i)
 have HOKL := Hi h.ok.1
 have HR1 := Hi hr1
 have HB1 := Hi hb1
 have HP := Hi h.lt
 have HZ1 := Hi hz1
 have HF := Hi hf
 have HC := Hi hc
 clear h hf hc h0 hr1 hb1 hz1
 go_enter Tryz.func176, Tryz.ntmps176
 go_wp2_with (first
   | (go_at_call 202; refine HK.out.mono ?_; clear HK; rintro e W2 ⟨⟨a2, c2, rfl, ht2⟩, hI2, hO2⟩
      obtain ⟨W3, hW3, hr3, hb3, hz3⟩ := rowTerm W2 (.int .u8 t0.kind) (.int .i64 t0.num) (.string t0.name) (.slice a2 t0.args.length c2)
      have HO3 := Hi (hO2.trans (On.of_below hb3))
      have HZ2 := Hi (And.intro hI2.lt hO2.size)
      have HCI := Hi (show ChI l P W2.heap.size (fun i => factorP f l i) (mulAt l) u m W W1 f t0 m0 a2 c2 W3 from ⟨HC.out, hI2.grow hb3, hr3, (hO2.trans (On.of_below hb3)).row HR1.out (by have := HP.out; omega), ht2.keep fun b hf => ⟨⟨hf.1, by omega, by omega⟩, hb3.block b hf.2⟩, (On.of_below HB1.out).trans (hO2.trans (On.of_below hb3))⟩)
      have HW3 := Hi hW3
      clear ht2 hI2 hO2 hr3 hb3 hz3 hW3))
 obtain ⟨T, hT⟩ : ∃ T, W2.heap.size = T := ⟨_, rfl⟩
 rw [HW3.out]
 rw [hT] at HCI HZ2 ⊢
 clear hT HW3
 go_loopg [4] f (fun k _ wr => ∃ (t : Tm) (i : Nat) (a : Option Addr) (c : Nat), ChI l P T (fun i => factorP f l i) (mulAt l) u m W W1 k t i a c wr)
 case atStart => exact ⟨t0, m0, a2, c2, HCI.out⟩
 case round =>
   obtain ⟨t, i, a, c, hA⟩ := hrel
   cases gk with
   | zero => have := hA.eq; simp [chainP] at this
   | succ k =>
   have heq := hA.eq
   simp only [chainP] at heq
   have HARG := Hi hA
   have HEQ := Hi heq
   have q0 := cells_at hA.box 0 _ rfl
   have q1 := cells_at hA.box 1 _ rfl
   have q2 := cells_at hA.box 2 _ rfl
   have q3 := cells_at hA.box 3 _ rfl
   have HSB : Hid (Below wr.heap.size wr wr) := Hi bR
   have HSA := Hi (fun (s : ByteArray) (Wx : World) (hx : Below wr.heap.size wr Wx) => sees_any (hA.ia.grow hx) s)
   clear hA heq
   obtain ⟨D1, hD1⟩ : ∃ D, seesL l i ⟨#[42]⟩ = D := ⟨_, rfl⟩
   cases D1 with
   | true =>
     have HD1 := Hi hD1
     clear hD1
     have hfd := tok_field1
     have hmm : mulAt l i = true := by unfold mulAt; simp [HD1.out]
     have HLT := Hi (sees_pos (l := l) (n := i) HD1.out)
     obtain ⟨s, hst⟩ : ∃ s, pt l i = s := ⟨_, rfl⟩
     have HST := Hi hst
     have HSZ : Hid (s.size ≤ maxLen) := Hi (by rw [← hst]; exact HPS.out i)
     have heq := HEQ.out
     rw [hmm, if_pos rfl, hst] at heq
     cases hpi : factorP f l (i + 1) with
     | none => rw [hpi] at heq; cases heq
     | some x =>
     obtain ⟨u1, m1⟩ := x
     rw [hpi] at heq
     simp only at heq
     have HPI := Hi hpi
     have HEQ2 := Hi heq
     have hilt : i < 40000 := by have := HLT.out; have := HOKL.out; omega
     have hw : IntKind.i64.wrap ((i : Int) + 1) = (i : Int) + 1 := IntWalk.i64_in _ (by omega)
     clear heq hpi hmm hst HEQ
     go_wp2_with (first
         | (go_at_call 178; have hhe := here_any (HARG.out.ia.grow HSB1.out); rw [HST.out] at hhe; refine hhe.mono ?_; clear hhe; rintro e V8 ⟨⟨A, rfl⟩, hV8⟩
            have hI8 := (HARG.out.ia.grow HSB1.out).grow hV8
            obtain ⟨_, _, _, _, p1, _, _, _⟩ := hI8.cells
            have hff := hI8.frozen
            obtain ⟨W6, hW6, hI6, hO6⟩ := hI8.step HLT.out
            have HI6 := Hi hI6
            have HO6 := Hi (((On.of_below (P := P) HSB1.out).trans (On.of_below hV8)).trans hO6)
            clear hV8 hI8 hI6 hO6)
         | (go_at_call 177; have hsee := HSA.out ⟨#[42]⟩ _ HSB.out; rw [HD1.out] at hsee; refine hsee.mono ?_; clear hsee; rintro e V1 ⟨rfl, hV1⟩; have HSB1 := Hi (HSB.out.trans (hV1.mono HSB.out.size)); clear hV1 HSB))
     have HTP : Hid (T ≠ P) := Hi (by have := HZ2.out.1; omega)
     refine wp_region_rel_tail (by kernel_rfl) 5 3 (On P) (fun _ _ h => On.of_below h) (fun _ _ _ h k => h.trans k) (fun _ _ h => h.size) (by decide) (FCh l P m1 s (.int .u8 t.kind) (.int .i64 t.num) (.string t.name) (.slice a t.args.length c) u1 W6) (by kernel_rfl) (by kernel_rfl) (steps_toR ?_) ?_
     · simp only [List.take_succ_cons, List.take_zero]
       refine ⟨?_, ?_, ?_, ?_, ?_, trivial⟩
       · intro ac wx hb he hd hs ho hp
         refine ⟨rfl, ?_⟩
         have h4 : ac.tmps.getD 4 undef = .string s := (ho 4 (by kernel_rfl)).trans rfl
         unfold Oper.wp
         go_simp
         exact SteppedR.at (v := .string s) (by first | rfl | simp) hd (show (0 : Nat) ≠ 3 by decide) bR rfl FCh_grow
       · intro ac wx hb he hd hs ho hp
         refine ⟨rfl, ?_⟩
         have h3 : ac.tmps.getD 3 undef = .pointer (some ⟨T, 0, none⟩) := (ho 3 (by kernel_rfl)).trans rfl
         have hx := (HO6.out.trans hb).row HARG.out.box HTP.out
         have x0 := cells_at hx 0 _ rfl
         have x1 := cells_at hx 1 _ rfl
         have x2 := cells_at hx 2 _ rfl
         have x3 := cells_at hx 3 _ rfl
         unfold Oper.wp
         go_simp
         exact SteppedR.at (v := .agg #[.int .u8 t.kind, .int .i64 t.num, .string t.name, .slice a t.args.length c]) (by first | rfl | simp) hd (show (1 : Nat) ≠ 3 by decide) bR rfl FCh_grow
       · intro ac wx hb he hd hs ho hp
         refine ⟨rfl, ?_⟩
         have h0 : ac.tmps.getD 0 undef = .pointer (some ⟨P, 0, none⟩) := (ho 0 (by kernel_rfl)).trans rfl
         unfold Oper.wp
         go_simp
         exact SteppedR.at (v := .pointer (some ⟨P, 0, none⟩)) (by first | rfl | simp) hd (show (2 : Nat) ≠ 3 by decide) bR rfl FCh_grow
       · intro ac wx hb he hd hs ho hp
         refine ⟨rfl, ?_⟩
         have h2 : ac.tmps.getD 29 undef = .pointer (some ⟨P, 0, none⟩) := facts_at hp 2 29 (by kernel_rfl)
         have hbe := he (Or.inl rfl)
         have hx := HF.out (i + 1) u1 m1 wx (HI6.out.grow hbe) HPI.out
         unfold Oper.wp
         go_simp
         go_at_call 202
         refine hx.mono ?_
         rintro e w' ⟨⟨a', cap', rfl, ht'⟩, hI', hO'⟩
         refine SteppedR.call (by first | rfl | simp) hd rfl hO' ⟨a', cap', rfl, ht'.keep fun b hf => ⟨⟨by have := hbe.size; omega, hf.2⟩, rfl⟩, hI'⟩ ?_
         intro j u hne hw hj
         match j, hj with
         | 0, h => exact h
         | 1, h => exact h
         | 2, h => exact h
         | 3, _ => exact absurd rfl hne
         | 4, _ => exact absurd (hw.symm.trans (by kernel_rfl)) Bool.false_ne_true
         | _ + 5, _ => trivial
       · intro ac wx hb he hd hs ho hp
         refine ⟨rfl, ?_⟩
         have h1 : ac.tmps.getD 28 undef = .agg #[.int .u8 t.kind, .int .i64 t.num, .string t.name, .slice a t.args.length c] := facts_at hp 1 28 (by kernel_rfl)
         obtain ⟨a20, c20, h20, ht20, hI20⟩ : CallF l P m1 u1 W6 (ac.tmps.getD 30 undef) wx := facts_at hp 3 30 (by kernel_rfl)
         have s1 := qslot_of (hs.trans (show _ = 34 from rfl)) (by decide) h1
         have s20 := qslot_of (hs.trans (show _ = 34 from rfl)) (by decide) h20
         unfold Oper.wp
         go_simp
         refine SteppedR.at rfl hd (show (4 : Nat) ≠ 3 by decide) (bR.alloc (Nat.le_refl _) _) ⟨a20, c20, wx.heap.size, rfl, hb.size, World.alloc_heap_new _ _, ht20.keep fun b hf => ⟨⟨hf.1, hf.2⟩, Below.heap_alloc _ _ _ hf.2⟩, hI20.grow (bR.alloc (Nat.le_refl _) _)⟩ FCh_grow
     · intro ac wz hbz hd hs2 ho2 hf
       have k0 : ac.tmps.getD 27 undef = .string s := facts_toR hf 0 27 (by decide) (by kernel_rfl)
       have k1 : ac.tmps.getD 28 undef = .agg #[.int .u8 t.kind, .int .i64 t.num, .string t.name, .slice a t.args.length c] := facts_toR hf 1 28 (by decide) (by kernel_rfl)
       have k2 : ac.tmps.getD 29 undef = .pointer (some ⟨P, 0, none⟩) := facts_toR hf 2 29 (by decide) (by kernel_rfl)
       obtain ⟨a21, c21, g21, k4, hg21, hr21, ht21, hI21⟩ : TwoF l P m1 #[.int .u8 t.kind, .int .i64 t.num, .string t.name, .slice a t.args.length c] u1 W6 (ac.tmps.getD 31 undef) wz := facts_toR hf 4 31 (by decide) (by kernel_rfl)
       obtain ⟨u3, k3⟩ : ∃ u, ac.tmps.getD 30 undef = u := ⟨_, rfl⟩
       have hE := slots_mergeR [false, false, false, false, false, false, false, false, false, false, false, false, false, false, false, false, false, false, false, false, false, false, false, false, false, false, false, true, true, true, true, true, false, false] 34 hs2 rfl (by kernel_rfl) ho2
       simp only [mergeFrom, Nat.zero_add, Nat.reduceAdd, k0, k1, k2, k3, k4] at hE
       obtain ⟨TT, DD⟩ := ac
       simp only at hE hd
       subst hd hE
       clear k0 k1 k2 k3 k4 hf hs2 ho2
       simp only [List.drop_succ_cons, List.drop_zero]
       have hOz := HO6.out.trans hbz
       have hbox := hOz.row HARG.out.box HTP.out
       have hres := hOz.row HARG.out.res (by have := HP.out; omega)
       have hgT : g21 ≠ T := by have := (gL HARG.out.box); have := HO6.out.size; omega
       have hgl := (gL hr21)
       have hsz1 : W1.heap.size ≤ wr.heap.size := by have := (gL HARG.out.box); have := HZ2.out.2; omega
       have hok1 : IsTmIn (fun b => W1.heap.size ≤ b ∧ b < wz.heap.size ∧ b ≠ T) wz (.int .u8 t.kind) (.int .i64 t.num) (.string t.name) (.slice a t.args.length c) t := HARG.out.tm.keep fun b hf => ⟨⟨hf.1, Nat.lt_of_lt_of_le hf.2.1 hOz.size, hf.2.2⟩, hOz.block b hf.2.1 (by have := HZ1.out; have := HP.out; have := hf.1; omega)⟩
       have hok2 : IsTmIn (fun b => W1.heap.size ≤ b ∧ b < wz.heap.size ∧ b ≠ T) wz _ _ _ _ u1 := ht21.keep fun b hf => ⟨⟨by have := HO6.out.size; omega, by omega, by have := (gL HARG.out.box); have := HO6.out.size; omega⟩, rfl⟩
       have hnew := twoTerm (k := 5) (s := s) (ok := fun b => W1.heap.size ≤ b ∧ b < wz.heap.size ∧ b ≠ T) hr21 hok1 hok2 ⟨by have := HO6.out.size; omega, hgl, hgT⟩ (by decide) HSZ.out
       have H5 := Hi (And.intro hbox (And.intro hres (And.intro hnew (And.intro hI21 (And.intro hOz hgT)))))
       clear hbox hres hnew hI21 hOz hgT hok1 hok2 ht21 hgl hsz1 hbz hg21 hr21
       go_wp2_with (go_at_call 179; refine (opnew_any s _ _ _ wz).mono ?_; rintro e W8 ⟨rfl, hB8⟩; have hb8 := (hB8.block T (gL H5.out.1)).trans H5.out.1; have x0 := cells_at hb8 0 _ rfl; have x1 := cells_at hb8 1 _ rfl; have x2 := cells_at hb8 2 _ rfl; have x3 := cells_at hb8 3 _ rfl; have hfz := row_frozen hb8; obtain ⟨W9, hW9, hr9, hb9, hz9, hk9⟩ := setTerm W8 T _ _ _ _ (.int .u8 5) (.int .i64 0) (.string s) (.slice (some ⟨g21, 0, none⟩) 2 2) _ hb8; have H9 := Hi (And.intro hr9 (And.intro hb9 (And.intro hz9 hk9))); have HB8 := Hi hB8; clear hB8 hb8 hr9 hb9 hz9 hk9)
       go_roundg k
       case measure => omega
       case rel =>
         obtain ⟨h1, h2, h3, h4, h5, h6⟩ := H5.out
         obtain ⟨hr9, hb9, hz9, hk9⟩ := H9.out
         have hTW : W.heap.size < T := by have := HZ2.out.2; have := HZ1.out; omega
         have hB8 := HB8.out
         exact ⟨opT s [t, u1], m1, some ⟨g21, 0, none⟩, 2, ⟨HEQ2.out, (h4.grow hB8).below hb9 HZ2.out.1, hr9, (hk9 W.heap.size (by omega)).trans ((hB8.block _ (gL h2)).trans h2), h3.keep fun b hf => ⟨⟨hf.1, by rw [hz9]; exact Nat.lt_of_lt_of_le hf.2.1 hB8.size, hf.2.2⟩, (hk9 b hf.2.2).trans (hB8.block b hf.2.1)⟩, ((HARG.out.on.trans h5).trans (On.of_below hB8)).fresh hb9 (by omega)⟩⟩
   | false =>
   have HD1 := Hi hD1
   clear hD1
   obtain ⟨D2, hD2⟩ : ∃ D, seesL l i ⟨#[47]⟩ = D := ⟨_, rfl⟩
   cases D2 with
   | true =>
     have HD2 := Hi hD2
     clear hD2
     have hfd := tok_field1
     have hmm : mulAt l i = true := by unfold mulAt; simp [HD1.out, HD2.out]
     have HLT := Hi (sees_pos (l := l) (n := i) HD2.out)
     obtain ⟨s, hst⟩ : ∃ s, pt l i = s := ⟨_, rfl⟩
     have HST := Hi hst
     have HSZ : Hid (s.size ≤ maxLen) := Hi (by rw [← hst]; exact HPS.out i)
     have heq := HEQ.out
     rw [hmm, if_pos rfl, hst] at heq
     cases hpi : factorP f l (i + 1) with
     | none => rw [hpi] at heq; cases heq
     | some x =>
     obtain ⟨u1, m1⟩ := x
     rw [hpi] at heq
     simp only at heq
     have HPI := Hi hpi
     have HEQ2 := Hi heq
     have hilt : i < 40000 := by have := HLT.out; have := HOKL.out; omega
     have hw : IntKind.i64.wrap ((i : Int) + 1) = (i : Int) + 1 := IntWalk.i64_in _ (by omega)
     clear heq hpi hmm hst HEQ
     go_wp2_with (first
         | (go_at_call 178; have hhe := here_any (HARG.out.ia.grow HSB2.out); rw [HST.out] at hhe; refine hhe.mono ?_; clear hhe; rintro e V8 ⟨⟨A, rfl⟩, hV8⟩
            have hI8 := (HARG.out.ia.grow HSB2.out).grow hV8
            obtain ⟨_, _, _, _, p1, _, _, _⟩ := hI8.cells
            have hff := hI8.frozen
            obtain ⟨W6, hW6, hI6, hO6⟩ := hI8.step HLT.out
            have HI6 := Hi hI6
            have HO6 := Hi (((On.of_below (P := P) HSB2.out).trans (On.of_below hV8)).trans hO6)
            clear hV8 hI8 hI6 hO6)
         | (go_at_call 177; have hsee := HSA.out ⟨#[47]⟩ _ HSB1.out; rw [HD2.out] at hsee; refine hsee.mono ?_; clear hsee; rintro e V2 ⟨rfl, hV2⟩; have HSB2 := Hi (HSB1.out.trans (hV2.mono HSB1.out.size)); clear hV2 HSB1)
         | (go_at_call 177; have hsee := HSA.out ⟨#[42]⟩ _ HSB.out; rw [HD1.out] at hsee; refine hsee.mono ?_; clear hsee; rintro e V1 ⟨rfl, hV1⟩; have HSB1 := Hi (HSB.out.trans (hV1.mono HSB.out.size)); clear hV1 HSB))
     have HTP : Hid (T ≠ P) := Hi (by have := HZ2.out.1; omega)
     refine wp_region_rel_tail (by kernel_rfl) 5 3 (On P) (fun _ _ h => On.of_below h) (fun _ _ _ h k => h.trans k) (fun _ _ h => h.size) (by decide) (FCh l P m1 s (.int .u8 t.kind) (.int .i64 t.num) (.string t.name) (.slice a t.args.length c) u1 W6) (by kernel_rfl) (by kernel_rfl) (steps_toR ?_) ?_
     · simp only [List.take_succ_cons, List.take_zero]
       refine ⟨?_, ?_, ?_, ?_, ?_, trivial⟩
       · intro ac wx hb he hd hs ho hp
         refine ⟨rfl, ?_⟩
         have h4 : ac.tmps.getD 4 undef = .string s := (ho 4 (by kernel_rfl)).trans rfl
         unfold Oper.wp
         go_simp
         exact SteppedR.at (v := .string s) (by first | rfl | simp) hd (show (0 : Nat) ≠ 3 by decide) bR rfl FCh_grow
       · intro ac wx hb he hd hs ho hp
         refine ⟨rfl, ?_⟩
         have h3 : ac.tmps.getD 3 undef = .pointer (some ⟨T, 0, none⟩) := (ho 3 (by kernel_rfl)).trans rfl
         have hx := (HO6.out.trans hb).row HARG.out.box HTP.out
         have x0 := cells_at hx 0 _ rfl
         have x1 := cells_at hx 1 _ rfl
         have x2 := cells_at hx 2 _ rfl
         have x3 := cells_at hx 3 _ rfl
         unfold Oper.wp
         go_simp
         exact SteppedR.at (v := .agg #[.int .u8 t.kind, .int .i64 t.num, .string t.name, .slice a t.args.length c]) (by first | rfl | simp) hd (show (1 : Nat) ≠ 3 by decide) bR rfl FCh_grow
       · intro ac wx hb he hd hs ho hp
         refine ⟨rfl, ?_⟩
         have h0 : ac.tmps.getD 0 undef = .pointer (some ⟨P, 0, none⟩) := (ho 0 (by kernel_rfl)).trans rfl
         unfold Oper.wp
         go_simp
         exact SteppedR.at (v := .pointer (some ⟨P, 0, none⟩)) (by first | rfl | simp) hd (show (2 : Nat) ≠ 3 by decide) bR rfl FCh_grow
       · intro ac wx hb he hd hs ho hp
         refine ⟨rfl, ?_⟩
         have h2 : ac.tmps.getD 29 undef = .pointer (some ⟨P, 0, none⟩) := facts_at hp 2 29 (by kernel_rfl)
         have hbe := he (Or.inl rfl)
         have hx := HF.out (i + 1) u1 m1 wx (HI6.out.grow hbe) HPI.out
         unfold Oper.wp
         go_simp
         go_at_call 202
         refine hx.mono ?_
         rintro e w' ⟨⟨a', cap', rfl, ht'⟩, hI', hO'⟩
         refine SteppedR.call (by first | rfl | simp) hd rfl hO' ⟨a', cap', rfl, ht'.keep fun b hf => ⟨⟨by have := hbe.size; omega, hf.2⟩, rfl⟩, hI'⟩ ?_
         intro j u hne hw hj
         match j, hj with
         | 0, h => exact h
         | 1, h => exact h
         | 2, h => exact h
         | 3, _ => exact absurd rfl hne
         | 4, _ => exact absurd (hw.symm.trans (by kernel_rfl)) Bool.false_ne_true
         | _ + 5, _ => trivial
       · intro ac wx hb he hd hs ho hp
         refine ⟨rfl, ?_⟩
         have h1 : ac.tmps.getD 28 undef = .agg #[.int .u8 t.kind, .int .i64 t.num, .string t.name, .slice a t.args.length c] := facts_at hp 1 28 (by kernel_rfl)
         obtain ⟨a20, c20, h20, ht20, hI20⟩ : CallF l P m1 u1 W6 (ac.tmps.getD 30 undef) wx := facts_at hp 3 30 (by kernel_rfl)
         have s1 := qslot_of (hs.trans (show _ = 34 from rfl)) (by decide) h1
         have s20 := qslot_of (hs.trans (show _ = 34 from rfl)) (by decide) h20
         unfold Oper.wp
         go_simp
         refine SteppedR.at rfl hd (show (4 : Nat) ≠ 3 by decide) (bR.alloc (Nat.le_refl _) _) ⟨a20, c20, wx.heap.size, rfl, hb.size, World.alloc_heap_new _ _, ht20.keep fun b hf => ⟨⟨hf.1, hf.2⟩, Below.heap_alloc _ _ _ hf.2⟩, hI20.grow (bR.alloc (Nat.le_refl _) _)⟩ FCh_grow
     · intro ac wz hbz hd hs2 ho2 hf
       have k0 : ac.tmps.getD 27 undef = .string s := facts_toR hf 0 27 (by decide) (by kernel_rfl)
       have k1 : ac.tmps.getD 28 undef = .agg #[.int .u8 t.kind, .int .i64 t.num, .string t.name, .slice a t.args.length c] := facts_toR hf 1 28 (by decide) (by kernel_rfl)
       have k2 : ac.tmps.getD 29 undef = .pointer (some ⟨P, 0, none⟩) := facts_toR hf 2 29 (by decide) (by kernel_rfl)
       obtain ⟨a21, c21, g21, k4, hg21, hr21, ht21, hI21⟩ : TwoF l P m1 #[.int .u8 t.kind, .int .i64 t.num, .string t.name, .slice a t.args.length c] u1 W6 (ac.tmps.getD 31 undef) wz := facts_toR hf 4 31 (by decide) (by kernel_rfl)
       obtain ⟨u3, k3⟩ : ∃ u, ac.tmps.getD 30 undef = u := ⟨_, rfl⟩
       have hE := slots_mergeR [false, false, false, false, false, false, false, false, false, false, false, false, false, false, false, false, false, false, false, false, false, false, false, false, false, false, false, true, true, true, true, true, false, false] 34 hs2 rfl (by kernel_rfl) ho2
       simp only [mergeFrom, Nat.zero_add, Nat.reduceAdd, k0, k1, k2, k3, k4] at hE
       obtain ⟨TT, DD⟩ := ac
       simp only at hE hd
       subst hd hE
       clear k0 k1 k2 k3 k4 hf hs2 ho2
       simp only [List.drop_succ_cons, List.drop_zero]
       have hOz := HO6.out.trans hbz
       have hbox := hOz.row HARG.out.box HTP.out
       have hres := hOz.row HARG.out.res (by have := HP.out; omega)
       have hgT : g21 ≠ T := by have := (gL HARG.out.box); have := HO6.out.size; omega
       have hgl := (gL hr21)
       have hsz1 : W1.heap.size ≤ wr.heap.size := by have := (gL HARG.out.box); have := HZ2.out.2; omega
       have hok1 : IsTmIn (fun b => W1.heap.size ≤ b ∧ b < wz.heap.size ∧ b ≠ T) wz (.int .u8 t.kind) (.int .i64 t.num) (.string t.name) (.slice a t.args.length c) t := HARG.out.tm.keep fun b hf => ⟨⟨hf.1, Nat.lt_of_lt_of_le hf.2.1 hOz.size, hf.2.2⟩, hOz.block b hf.2.1 (by have := HZ1.out; have := HP.out; have := hf.1; omega)⟩
       have hok2 : IsTmIn (fun b => W1.heap.size ≤ b ∧ b < wz.heap.size ∧ b ≠ T) wz _ _ _ _ u1 := ht21.keep fun b hf => ⟨⟨by have := HO6.out.size; omega, by omega, by have := (gL HARG.out.box); have := HO6.out.size; omega⟩, rfl⟩
       have hnew := twoTerm (k := 5) (s := s) (ok := fun b => W1.heap.size ≤ b ∧ b < wz.heap.size ∧ b ≠ T) hr21 hok1 hok2 ⟨by have := HO6.out.size; omega, hgl, hgT⟩ (by decide) HSZ.out
       have H5 := Hi (And.intro hbox (And.intro hres (And.intro hnew (And.intro hI21 (And.intro hOz hgT)))))
       clear hbox hres hnew hI21 hOz hgT hok1 hok2 ht21 hgl hsz1 hbz hg21 hr21
       go_wp2_with (go_at_call 179; refine (opnew_any s _ _ _ wz).mono ?_; rintro e W8 ⟨rfl, hB8⟩; have hb8 := (hB8.block T (gL H5.out.1)).trans H5.out.1; have x0 := cells_at hb8 0 _ rfl; have x1 := cells_at hb8 1 _ rfl; have x2 := cells_at hb8 2 _ rfl; have x3 := cells_at hb8 3 _ rfl; have hfz := row_frozen hb8; obtain ⟨W9, hW9, hr9, hb9, hz9, hk9⟩ := setTerm W8 T _ _ _ _ (.int .u8 5) (.int .i64 0) (.string s) (.slice (some ⟨g21, 0, none⟩) 2 2) _ hb8; have H9 := Hi (And.intro hr9 (And.intro hb9 (And.intro hz9 hk9))); have HB8 := Hi hB8; clear hB8 hb8 hr9 hb9 hz9 hk9)
       go_roundg k
       case measure => omega
       case rel =>
         obtain ⟨h1, h2, h3, h4, h5, h6⟩ := H5.out
         obtain ⟨hr9, hb9, hz9, hk9⟩ := H9.out
         have hTW : W.heap.size < T := by have := HZ2.out.2; have := HZ1.out; omega
         have hB8 := HB8.out
         exact ⟨opT s [t, u1], m1, some ⟨g21, 0, none⟩, 2, ⟨HEQ2.out, (h4.grow hB8).below hb9 HZ2.out.1, hr9, (hk9 W.heap.size (by omega)).trans ((hB8.block _ (gL h2)).trans h2), h3.keep fun b hf => ⟨⟨hf.1, by rw [hz9]; exact Nat.lt_of_lt_of_le hf.2.1 hB8.size, hf.2.2⟩, (hk9 b hf.2.2).trans (hB8.block b hf.2.1)⟩, ((HARG.out.on.trans h5).trans (On.of_below hB8)).fresh hb9 (by omega)⟩⟩
   | false =>
   have HD2 := Hi hD2
   clear hD2
   obtain ⟨D3, hD3⟩ : ∃ D, seesL l i ⟨#[92]⟩ = D := ⟨_, rfl⟩
   cases D3 with
   | true =>
     have HD3 := Hi hD3
     clear hD3
     have hfd := tok_field1
     have hmm : mulAt l i = true := by unfold mulAt; simp [HD1.out, HD2.out, HD3.out]
     have HLT := Hi (sees_pos (l := l) (n := i) HD3.out)
     obtain ⟨s, hst⟩ : ∃ s, pt l i = s := ⟨_, rfl⟩
     have HST := Hi hst
     have HSZ : Hid (s.size ≤ maxLen) := Hi (by rw [← hst]; exact HPS.out i)
     have heq := HEQ.out
     rw [hmm, if_pos rfl, hst] at heq
     cases hpi : factorP f l (i + 1) with
     | none => rw [hpi] at heq; cases heq
     | some x =>
     obtain ⟨u1, m1⟩ := x
     rw [hpi] at heq
     simp only at heq
     have HPI := Hi hpi
     have HEQ2 := Hi heq
     have hilt : i < 40000 := by have := HLT.out; have := HOKL.out; omega
     have hw : IntKind.i64.wrap ((i : Int) + 1) = (i : Int) + 1 := IntWalk.i64_in _ (by omega)
     clear heq hpi hmm hst HEQ
     go_wp2_with (first
         | (go_at_call 178; have hhe := here_any (HARG.out.ia.grow HSB3.out); rw [HST.out] at hhe; refine hhe.mono ?_; clear hhe; rintro e V8 ⟨⟨A, rfl⟩, hV8⟩
            have hI8 := (HARG.out.ia.grow HSB3.out).grow hV8
            obtain ⟨_, _, _, _, p1, _, _, _⟩ := hI8.cells
            have hff := hI8.frozen
            obtain ⟨W6, hW6, hI6, hO6⟩ := hI8.step HLT.out
            have HI6 := Hi hI6
            have HO6 := Hi (((On.of_below (P := P) HSB3.out).trans (On.of_below hV8)).trans hO6)
            clear hV8 hI8 hI6 hO6)
         | (go_at_call 177; have hsee := HSA.out ⟨#[92]⟩ _ HSB2.out; rw [HD3.out] at hsee; refine hsee.mono ?_; clear hsee; rintro e V3 ⟨rfl, hV3⟩; have HSB3 := Hi (HSB2.out.trans (hV3.mono HSB2.out.size)); clear hV3 HSB2)
         | (go_at_call 177; have hsee := HSA.out ⟨#[47]⟩ _ HSB1.out; rw [HD2.out] at hsee; refine hsee.mono ?_; clear hsee; rintro e V2 ⟨rfl, hV2⟩; have HSB2 := Hi (HSB1.out.trans (hV2.mono HSB1.out.size)); clear hV2 HSB1)
         | (go_at_call 177; have hsee := HSA.out ⟨#[42]⟩ _ HSB.out; rw [HD1.out] at hsee; refine hsee.mono ?_; clear hsee; rintro e V1 ⟨rfl, hV1⟩; have HSB1 := Hi (HSB.out.trans (hV1.mono HSB.out.size)); clear hV1 HSB))
     have HTP : Hid (T ≠ P) := Hi (by have := HZ2.out.1; omega)
     refine wp_region_rel_tail (by kernel_rfl) 5 3 (On P) (fun _ _ h => On.of_below h) (fun _ _ _ h k => h.trans k) (fun _ _ h => h.size) (by decide) (FCh l P m1 s (.int .u8 t.kind) (.int .i64 t.num) (.string t.name) (.slice a t.args.length c) u1 W6) (by kernel_rfl) (by kernel_rfl) (steps_toR ?_) ?_
     · simp only [List.take_succ_cons, List.take_zero]
       refine ⟨?_, ?_, ?_, ?_, ?_, trivial⟩
       · intro ac wx hb he hd hs ho hp
         refine ⟨rfl, ?_⟩
         have h4 : ac.tmps.getD 4 undef = .string s := (ho 4 (by kernel_rfl)).trans rfl
         unfold Oper.wp
         go_simp
         exact SteppedR.at (v := .string s) (by first | rfl | simp) hd (show (0 : Nat) ≠ 3 by decide) bR rfl FCh_grow
       · intro ac wx hb he hd hs ho hp
         refine ⟨rfl, ?_⟩
         have h3 : ac.tmps.getD 3 undef = .pointer (some ⟨T, 0, none⟩) := (ho 3 (by kernel_rfl)).trans rfl
         have hx := (HO6.out.trans hb).row HARG.out.box HTP.out
         have x0 := cells_at hx 0 _ rfl
         have x1 := cells_at hx 1 _ rfl
         have x2 := cells_at hx 2 _ rfl
         have x3 := cells_at hx 3 _ rfl
         unfold Oper.wp
         go_simp
         exact SteppedR.at (v := .agg #[.int .u8 t.kind, .int .i64 t.num, .string t.name, .slice a t.args.length c]) (by first | rfl | simp) hd (show (1 : Nat) ≠ 3 by decide) bR rfl FCh_grow
       · intro ac wx hb he hd hs ho hp
         refine ⟨rfl, ?_⟩
         have h0 : ac.tmps.getD 0 undef = .pointer (some ⟨P, 0, none⟩) := (ho 0 (by kernel_rfl)).trans rfl
         unfold Oper.wp
         go_simp
         exact SteppedR.at (v := .pointer (some ⟨P, 0, none⟩)) (by first | rfl | simp) hd (show (2 : Nat) ≠ 3 by decide) bR rfl FCh_grow
       · intro ac wx hb he hd hs ho hp
         refine ⟨rfl, ?_⟩
         have h2 : ac.tmps.getD 29 undef = .pointer (some ⟨P, 0, none⟩) := facts_at hp 2 29 (by kernel_rfl)
         have hbe := he (Or.inl rfl)
         have hx := HF.out (i + 1) u1 m1 wx (HI6.out.grow hbe) HPI.out
         unfold Oper.wp
         go_simp
         go_at_call 202
         refine hx.mono ?_
         rintro e w' ⟨⟨a', cap', rfl, ht'⟩, hI', hO'⟩
         refine SteppedR.call (by first | rfl | simp) hd rfl hO' ⟨a', cap', rfl, ht'.keep fun b hf => ⟨⟨by have := hbe.size; omega, hf.2⟩, rfl⟩, hI'⟩ ?_
         intro j u hne hw hj
         match j, hj with
         | 0, h => exact h
         | 1, h => exact h
         | 2, h => exact h
         | 3, _ => exact absurd rfl hne
         | 4, _ => exact absurd (hw.symm.trans (by kernel_rfl)) Bool.false_ne_true
         | _ + 5, _ => trivial
       · intro ac wx hb he hd hs ho hp
         refine ⟨rfl, ?_⟩
         have h1 : ac.tmps.getD 28 undef = .agg #[.int .u8 t.kind, .int .i64 t.num, .string t.name, .slice a t.args.length c] := facts_at hp 1 28 (by kernel_rfl)
         obtain ⟨a20, c20, h20, ht20, hI20⟩ : CallF l P m1 u1 W6 (ac.tmps.getD 30 undef) wx := facts_at hp 3 30 (by kernel_rfl)
         have s1 := qslot_of (hs.trans (show _ = 34 from rfl)) (by decide) h1
         have s20 := qslot_of (hs.trans (show _ = 34 from rfl)) (by decide) h20
         unfold Oper.wp
         go_simp
         refine SteppedR.at rfl hd (show (4 : Nat) ≠ 3 by decide) (bR.alloc (Nat.le_refl _) _) ⟨a20, c20, wx.heap.size, rfl, hb.size, World.alloc_heap_new _ _, ht20.keep fun b hf => ⟨⟨hf.1, hf.2⟩, Below.heap_alloc _ _ _ hf.2⟩, hI20.grow (bR.alloc (Nat.le_refl _) _)⟩ FCh_grow
     · intro ac wz hbz hd hs2 ho2 hf
       have k0 : ac.tmps.getD 27 undef = .string s := facts_toR hf 0 27 (by decide) (by kernel_rfl)
       have k1 : ac.tmps.getD 28 undef = .agg #[.int .u8 t.kind, .int .i64 t.num, .string t.name, .slice a t.args.length c] := facts_toR hf 1 28 (by decide) (by kernel_rfl)
       have k2 : ac.tmps.getD 29 undef = .pointer (some ⟨P, 0, none⟩) := facts_toR hf 2 29 (by decide) (by kernel_rfl)
       obtain ⟨a21, c21, g21, k4, hg21, hr21, ht21, hI21⟩ : TwoF l P m1 #[.int .u8 t.kind, .int .i64 t.num, .string t.name, .slice a t.args.length c] u1 W6 (ac.tmps.getD 31 undef) wz := facts_toR hf 4 31 (by decide) (by kernel_rfl)
       obtain ⟨u3, k3⟩ : ∃ u, ac.tmps.getD 30 undef = u := ⟨_, rfl⟩
       have hE := slots_mergeR [false, false, false, false, false, false, false, false, false, false, false, false, false, false, false, false, false, false, false, false, false, false, false, false, false, false, false, true, true, true, true, true, false, false] 34 hs2 rfl (by kernel_rfl) ho2
       simp only [mergeFrom, Nat.zero_add, Nat.reduceAdd, k0, k1, k2, k3, k4] at hE
       obtain ⟨TT, DD⟩ := ac
       simp only at hE hd
       subst hd hE
       clear k0 k1 k2 k3 k4 hf hs2 ho2
       simp only [List.drop_succ_cons, List.drop_zero]
       have hOz := HO6.out.trans hbz
       have hbox := hOz.row HARG.out.box HTP.out
       have hres := hOz.row HARG.out.res (by have := HP.out; omega)
       have hgT : g21 ≠ T := by have := (gL HARG.out.box); have := HO6.out.size; omega
       have hgl := (gL hr21)
       have hsz1 : W1.heap.size ≤ wr.heap.size := by have := (gL HARG.out.box); have := HZ2.out.2; omega
       have hok1 : IsTmIn (fun b => W1.heap.size ≤ b ∧ b < wz.heap.size ∧ b ≠ T) wz (.int .u8 t.kind) (.int .i64 t.num) (.string t.name) (.slice a t.args.length c) t := HARG.out.tm.keep fun b hf => ⟨⟨hf.1, Nat.lt_of_lt_of_le hf.2.1 hOz.size, hf.2.2⟩, hOz.block b hf.2.1 (by have := HZ1.out; have := HP.out; have := hf.1; omega)⟩
       have hok2 : IsTmIn (fun b => W1.heap.size ≤ b ∧ b < wz.heap.size ∧ b ≠ T) wz _ _ _ _ u1 := ht21.keep fun b hf => ⟨⟨by have := HO6.out.size; omega, by omega, by have := (gL HARG.out.box); have := HO6.out.size; omega⟩, rfl⟩
       have hnew := twoTerm (k := 5) (s := s) (ok := fun b => W1.heap.size ≤ b ∧ b < wz.heap.size ∧ b ≠ T) hr21 hok1 hok2 ⟨by have := HO6.out.size; omega, hgl, hgT⟩ (by decide) HSZ.out
       have H5 := Hi (And.intro hbox (And.intro hres (And.intro hnew (And.intro hI21 (And.intro hOz hgT)))))
       clear hbox hres hnew hI21 hOz hgT hok1 hok2 ht21 hgl hsz1 hbz hg21 hr21
       go_wp2_with (go_at_call 179; refine (opnew_any s _ _ _ wz).mono ?_; rintro e W8 ⟨rfl, hB8⟩; have hb8 := (hB8.block T (gL H5.out.1)).trans H5.out.1; have x0 := cells_at hb8 0 _ rfl; have x1 := cells_at hb8 1 _ rfl; have x2 := cells_at hb8 2 _ rfl; have x3 := cells_at hb8 3 _ rfl; have hfz := row_frozen hb8; obtain ⟨W9, hW9, hr9, hb9, hz9, hk9⟩ := setTerm W8 T _ _ _ _ (.int .u8 5) (.int .i64 0) (.string s) (.slice (some ⟨g21, 0, none⟩) 2 2) _ hb8; have H9 := Hi (And.intro hr9 (And.intro hb9 (And.intro hz9 hk9))); have HB8 := Hi hB8; clear hB8 hb8 hr9 hb9 hz9 hk9)
       go_roundg k
       case measure => omega
       case rel =>
         obtain ⟨h1, h2, h3, h4, h5, h6⟩ := H5.out
         obtain ⟨hr9, hb9, hz9, hk9⟩ := H9.out
         have hTW : W.heap.size < T := by have := HZ2.out.2; have := HZ1.out; omega
         have hB8 := HB8.out
         exact ⟨opT s [t, u1], m1, some ⟨g21, 0, none⟩, 2, ⟨HEQ2.out, (h4.grow hB8).below hb9 HZ2.out.1, hr9, (hk9 W.heap.size (by omega)).trans ((hB8.block _ (gL h2)).trans h2), h3.keep fun b hf => ⟨⟨hf.1, by rw [hz9]; exact Nat.lt_of_lt_of_le hf.2.1 hB8.size, hf.2.2⟩, (hk9 b hf.2.2).trans (hB8.block b hf.2.1)⟩, ((HARG.out.on.trans h5).trans (On.of_below hB8)).fresh hb9 (by omega)⟩⟩
   | false =>
   have HD3 := Hi hD3
   clear hD3
   have hmm : mulAt l i = false := by unfold mulAt; simp [HD1.out, HD2.out, HD3.out]
   have heq := HEQ.out
   rw [hmm, if_neg Bool.false_ne_true] at heq
   simp only [Option.some.injEq, Prod.mk.injEq] at heq
   obtain ⟨rfl, rfl⟩ := heq
   clear hmm HEQ
   go_wp2_with (first
     | (go_at_call 177; have hsee := HSA.out ⟨#[92]⟩ _ HSB2.out; rw [HD3.out] at hsee; refine hsee.mono ?_; clear hsee; rintro e V3 ⟨rfl, hV3⟩; have HSB3 := Hi (HSB2.out.trans (hV3.mono HSB2.out.size)); clear hV3 HSB2; have hO := On.of_below (P := P) HSB3.out; have hbx := hO.row HARG.out.box (by have := HZ2.out.1; omega); have z0 := cells_at hbx 0 _ rfl; have z1 := cells_at hbx 1 _ rfl; have z2 := cells_at hbx 2 _ rfl; have z3 := cells_at hbx 3 _ rfl; have hro := hO.row HARG.out.res (by have := HP.out; omega); have o0 := cells_at hro 0 _ rfl; have o1 := cells_at hro 1 _ rfl; have o2 := cells_at hro 2 _ rfl; have o3 := cells_at hro 3 _ rfl; have hff := row_frozen hro; obtain ⟨W9, hW9, hr9, hb9, hz9, hk9⟩ := setTerm V3 W.heap.size _ _ _ _ (.int .u8 t.kind) (.int .i64 t.num) (.string t.name) (.slice a t.args.length c) _ hro; have HR9 := Hi hr9; have HB9 := Hi (And.intro hb9 (And.intro hz9 hk9)); have HO := Hi hO; clear hbx hro hr9 hb9 hz9 hk9 hO)
     | (go_at_call 177; have hsee := HSA.out ⟨#[47]⟩ _ HSB1.out; rw [HD2.out] at hsee; refine hsee.mono ?_; clear hsee; rintro e V2 ⟨rfl, hV2⟩; have HSB2 := Hi (HSB1.out.trans (hV2.mono HSB1.out.size)); clear hV2 HSB1)
     | (go_at_call 177; have hsee := HSA.out ⟨#[42]⟩ _ HSB.out; rw [HD1.out] at hsee; refine hsee.mono ?_; clear hsee; rintro e V1 ⟨rfl, hV1⟩; have HSB1 := Hi (HSB.out.trans (hV1.mono HSB.out.size)); clear hV1 HSB))
   refine bodyPost_ret (v := .agg #[.int .u8 t.kind, .int .i64 t.num, .string t.name, .slice a t.args.length c]) (by simp [results, Tryz.f176, go_sem, cells_at HR9.out 0 _ rfl, cells_at HR9.out 1 _ rfl, cells_at HR9.out 2 _ rfl, cells_at HR9.out 3 _ rfl]) rfl ?_
   obtain ⟨hb9, hz9, hk9⟩ := HB9.out
   exact ⟨⟨_, _, rfl, HARG.out.tm.keep fun b hf => ⟨⟨by have := HZ1.out; omega, by rw [hz9]; exact Nat.lt_of_lt_of_le hf.2.1 HO.out.size⟩, (hk9 b (by have := HZ1.out; omega)).trans (HO.out.block b hf.2.1 (by have := HP.out; have := HZ1.out; omega))⟩⟩, (HARG.out.ia.grow HSB3.out).below (hb9.mono (Nat.le_refl _)) HP.out, (HARG.out.on.trans HO.out).fresh hb9 (Nat.le_refl _)⟩
theorem sum_step {l : List Tk} {P f : Nat} (hf : PC l P 176 (fun i => productP f l i)) : PC l P 150 (fun i => sumP (f + 1) l i) := by
 intro n t m W h hr
 simp only [sumP] at hr
 split at hr
 · cases hr
 · rename_i t0 m0 h0
   exact sum_chain hf h h0 hr
theorem product_step {l : List Tk} {P f : Nat} (hf : PC l P 202 (fun i => factorP f l i)) : PC l P 176 (fun i => productP (f + 1) l i) := by
 intro n t m W h hr
 simp only [productP] at hr
 split at hr
 · cases hr
 · rename_i t0 m0 h0
   exact product_chain hf h h0 hr
end Go.Proofs.YtlmdhlckgbgfhaaGreatDoor
namespace Go.Proofs.YtlmdhlckgbgfhaaGreatDoor
open Go.RowKit Go.Shelf
attribute [local go_sem] Oper.semAt_some

def FBp (l : List Tk) (P m : Nat) (c0 c1 c2 c3 : Value) (t : Tm) (w0 : World) : Facts := fun i v w => match i with
 | 0 => v = .agg #[c0, c1, c2, c3]
 | 1 => v = .pointer (some ⟨P, 0, none⟩)
 | 2 => CallF l P m t w0 v w
 | _ => True
theorem FBp_grow {l : List Tk} {P m : Nat} {c0 c1 c2 c3 : Value} {t : Tm} {w0 : World} (i : Nat) (v : Value) (w w' : World) (h : FBp l P m c0 c1 c2 c3 t w0 i v w) (hb : Below w.heap.size w w') : FBp l P m c0 c1 c2 c3 t w0 i v w' := by
 match i, h with
 | 0, h => exact h
 | 1, h => exact h
 | 2, h => exact CallF.grow h hb
 | _ + 3, _ => trivial
theorem part_one {l : List Tk} {P f : Nat} (hf : PC l P 150 (fun i => sumP f l i)) {n : Nat} {W : World} (h : InAt l P n W) {t : Tm} {m0 : Nat} (h0 : sumP f l n = some (t, m0)) (hd0 : seesL l m0 ⟨#[46, 46]⟩ = false) :
   Calls Tryz.prog 107 #[.pointer (some ⟨P, 0, none⟩)] W (PPost l P m0 t W) := by
 obtain ⟨W1, hW1, hr1, hb1, hz1⟩ := rowTerm W (.int .u8 0) (.int .i64 0) (.string ⟨#[]⟩) (.slice none 0 0)
 have HK := Hi (hf _ _ _ W1 (h.grow hb1) h0)
 have HR1 := Hi hr1
 have HB1 := Hi hb1
 have HP := Hi h.lt
 have HZ1 := Hi hz1
 have HF := Hi hf
 have HD := Hi hd0
 clear h hf h0 hd0 hr1 hb1 hz1
 go_enter Tryz.func107, Tryz.ntmps107
 go_wp2_with (first
   | (go_at_call 150; refine HK.out.mono ?_; clear HK; rintro e W2 ⟨⟨a, c, rfl, ht2⟩, hI2, hO2⟩
      obtain ⟨W3, hW3, hr3, hb3, hz3⟩ := rowTerm W2 (.int .u8 t.kind) (.int .i64 t.num) (.string t.name) (.slice a t.args.length c)
      have HIS := Hi (is_any (hI2.grow hb3) ⟨#[46, 46]⟩)
      have HO3 := Hi (hO2.trans (On.of_below hb3))
      have HZ2 := Hi (And.intro hI2.lt hO2.size)
      have HR3 := Hi hr3
      have HT3 := Hi (show IsTmIn (fun b => W1.heap.size ≤ b ∧ b < W3.heap.size ∧ b ≠ W2.heap.size) W3 _ _ _ _ t from ht2.keep fun b hf => ⟨⟨hf.1, by omega, by omega⟩, hb3.block b hf.2⟩)
      have HW3 := Hi hW3
      clear ht2 hI2 hO2 hr3 hb3 hz3 hW3)
   | (go_at_call 151; rw [HD.out] at HIS; rw [HW3.out]; refine HIS.out.mono ?_; clear HIS HW3; rintro e W4 ⟨rfl, hO4, hI4⟩
      rw [if_neg Bool.false_ne_true] at hI4
      have HOE := Hi (HO3.out.trans hO4)
      have hr4 := hO4.row HR3.out (by have := HZ2.out.1; omega)
      have u0 := cells_at hr4 0 _ rfl
      have u1 := cells_at hr4 1 _ rfl
      have u2 := cells_at hr4 2 _ rfl
      have u3 := cells_at hr4 3 _ rfl
      have HIE := Hi hI4
      have HT4 := Hi (show IsTmIn (fun b => W1.heap.size ≤ b ∧ b < W4.heap.size) W4 _ _ _ _ t from HT3.out.keep fun b hf => ⟨⟨hf.1, Nat.lt_of_lt_of_le hf.2.1 hO4.size⟩, hO4.block b hf.2.1 (by have := HP.out; have := HZ1.out; have := hf.1; omega)⟩)
      clear hO4 hI4 hr4
      have hro := HOE.out.row HR1.out (by have := HP.out; omega)
      have o0 := cells_at hro 0 _ rfl
      have o1 := cells_at hro 1 _ rfl
      have o2 := cells_at hro 2 _ rfl
      have o3 := cells_at hro 3 _ rfl
      have hff := row_frozen hro
      obtain ⟨W9, hW9, hr9, hb9, hz9, hk9⟩ := setTerm W4 W.heap.size _ _ _ _ (.int .u8 t.kind) (.int .i64 t.num) (.string t.name) (.slice a t.args.length c) _ hro
      have HR9 := Hi hr9
      have HB9 := Hi (And.intro hb9 (And.intro hz9 hk9))
      clear hro hr9 hb9 hz9 hk9))
 refine bodyPost_ret (v := .agg #[.int .u8 t.kind, .int .i64 t.num, .string t.name, .slice a t.args.length c]) (by simp [results, Tryz.f107, go_sem, cells_at HR9.out 0 _ rfl, cells_at HR9.out 1 _ rfl, cells_at HR9.out 2 _ rfl, cells_at HR9.out 3 _ rfl]) rfl ?_
 obtain ⟨hb9, hz9, hk9⟩ := HB9.out
 exact ⟨⟨_, _, rfl, HT4.out.keep fun b hf => ⟨⟨by have := HZ1.out; omega, by rw [hz9]; exact hf.2⟩, hk9 b (by have := HZ1.out; have := hf.1; omega)⟩⟩, HIE.out.below (hb9.mono (Nat.le_refl _)) HP.out, ((On.of_below HB1.out).trans HOE.out).fresh hb9 (Nat.le_refl _)⟩
theorem part_two {l : List Tk} {P f : Nat} (hf : PC l P 150 (fun i => sumP f l i)) {n : Nat} {W : World} (h : InAt l P n W) {t : Tm} {m0 : Nat} (h0 : sumP f l n = some (t, m0)) (hd0 : seesL l m0 ⟨#[46, 46]⟩ = true) {u : Tm} {m : Nat} (hpi : sumP f l (m0 + 1) = some (u, m)) :
   Calls Tryz.prog 107 #[.pointer (some ⟨P, 0, none⟩)] W (PPost l P m (.mk 6 0 ⟨#[]⟩ [t, u]) W) := by
 obtain ⟨W1, hW1, hr1, hb1, hz1⟩ := rowTerm W (.int .u8 0) (.int .i64 0) (.string ⟨#[]⟩) (.slice none 0 0)
 have HK := Hi (hf _ _ _ W1 (h.grow hb1) h0)
 have HR1 := Hi hr1
 have HB1 := Hi hb1
 have HP := Hi h.lt
 have HZ1 := Hi hz1
 have HF := Hi hf
 have HD := Hi hd0
 have HPI := Hi hpi
 clear hpi
 clear h hf h0 hd0 hr1 hb1 hz1
 go_enter Tryz.func107, Tryz.ntmps107
 go_wp2_with (first
   | (go_at_call 150; refine HK.out.mono ?_; clear HK; rintro e W2 ⟨⟨a, c, rfl, ht2⟩, hI2, hO2⟩
      obtain ⟨W3, hW3, hr3, hb3, hz3⟩ := rowTerm W2 (.int .u8 t.kind) (.int .i64 t.num) (.string t.name) (.slice a t.args.length c)
      have HIS := Hi (is_any (hI2.grow hb3) ⟨#[46, 46]⟩)
      have HO3 := Hi (hO2.trans (On.of_below hb3))
      have HZ2 := Hi (And.intro hI2.lt hO2.size)
      have HR3 := Hi hr3
      have HT3 := Hi (show IsTmIn (fun b => W1.heap.size ≤ b ∧ b < W3.heap.size ∧ b ≠ W2.heap.size) W3 _ _ _ _ t from ht2.keep fun b hf => ⟨⟨hf.1, by omega, by omega⟩, hb3.block b hf.2⟩)
      have HW3 := Hi hW3
      clear ht2 hI2 hO2 hr3 hb3 hz3 hW3)
   | (go_at_call 151; rw [HD.out] at HIS; rw [HW3.out]; refine HIS.out.mono ?_; clear HIS HW3; rintro e W4 ⟨rfl, hO4, hI4⟩
      rw [if_pos rfl] at hI4
      have HO4 := Hi (HO3.out.trans hO4)
      have HR4 := Hi (hO4.row HR3.out (by have := HZ2.out.1; omega))
      have HI4 := Hi hI4
      have HT4 := Hi (show IsTmIn (fun b => W1.heap.size ≤ b ∧ b < W4.heap.size ∧ b ≠ W2.heap.size) W4 _ _ _ _ t from HT3.out.keep fun b hf => ⟨⟨hf.1, Nat.lt_of_lt_of_le hf.2.1 hO4.size, hf.2.2⟩, hO4.block b hf.2.1 (by have := HP.out; have := HZ1.out; have := hf.1; omega)⟩)
      clear hO4 hI4))
 obtain ⟨T, hT⟩ : ∃ T, W2.heap.size = T := ⟨_, rfl⟩
 rw [hT] at HR4 HT4 HZ2 ⊢
 have HTP : Hid (T ≠ P) := Hi (by have := HZ2.out.1; omega)
 clear hT HT3 HR3
 refine wp_region_rel_tail (by kernel_rfl) 3 2 (On P) (fun _ _ h => On.of_below h) (fun _ _ _ h k => h.trans k) (fun _ _ h => h.size) (by decide) (FBp l P m (.int .u8 t.kind) (.int .i64 t.num) (.string t.name) (.slice a t.args.length c) u W4) (by kernel_rfl) (by kernel_rfl) (steps_toR ?_) ?_
 · simp only [List.take_succ_cons, List.take_zero]
   refine ⟨?_, ?_, ?_, trivial⟩
   · intro ac wx hb he hd hs ho hp
     refine ⟨rfl, ?_⟩
     have h3 : ac.tmps.getD 3 undef = .pointer (some ⟨T, 0, none⟩) := (ho 3 (by kernel_rfl)).trans rfl
     have hx := hb.row HR4.out HTP.out
     have x0 := cells_at hx 0 _ rfl
     have x1 := cells_at hx 1 _ rfl
     have x2 := cells_at hx 2 _ rfl
     have x3 := cells_at hx 3 _ rfl
     unfold Oper.wp
     go_simp
     exact SteppedR.at (v := .agg #[.int .u8 t.kind, .int .i64 t.num, .string t.name, .slice a t.args.length c]) (by first | rfl | simp) hd (show (0 : Nat) ≠ 2 by decide) bR rfl FBp_grow
   · intro ac wx hb he hd hs ho hp
     refine ⟨rfl, ?_⟩
     have h0 : ac.tmps.getD 0 undef = .pointer (some ⟨P, 0, none⟩) := (ho 0 (by kernel_rfl)).trans rfl
     unfold Oper.wp
     go_simp
     exact SteppedR.at (v := .pointer (some ⟨P, 0, none⟩)) (by first | rfl | simp) hd (show (1 : Nat) ≠ 2 by decide) bR rfl FBp_grow
   · intro ac wx hb he hd hs ho hp
     refine ⟨rfl, ?_⟩
     have h2 : ac.tmps.getD 9 undef = .pointer (some ⟨P, 0, none⟩) := facts_at hp 1 9 (by kernel_rfl)
     have hbe := he (Or.inl rfl)
     have hx := HF.out (m0 + 1) u m wx (HI4.out.grow hbe) HPI.out
     unfold Oper.wp
     go_simp
     go_at_call 150
     refine hx.mono ?_
     rintro e w' ⟨⟨a', cap', rfl, ht'⟩, hI', hO'⟩
     refine SteppedR.call (by first | rfl | simp) hd rfl hO' ⟨a', cap', rfl, ht'.keep fun b hf => ⟨⟨by have := hbe.size; omega, hf.2⟩, rfl⟩, hI'⟩ ?_
     intro j u hne hw hj
     match j, hj with
     | 0, h => exact h
     | 1, h => exact h
     | 2, _ => exact absurd rfl hne
     | _ + 3, _ => trivial
 · intro ac wz hbz hd hs2 ho2 hf
   have k0 : ac.tmps.getD 8 undef = .agg #[.int .u8 t.kind, .int .i64 t.num, .string t.name, .slice a t.args.length c] := facts_toR hf 0 8 (by decide) (by kernel_rfl)
   have k1 : ac.tmps.getD 9 undef = .pointer (some ⟨P, 0, none⟩) := facts_toR hf 1 9 (by decide) (by kernel_rfl)
   obtain ⟨a10, c10, k2, ht10, hI10⟩ : CallF l P m u W4 (ac.tmps.getD 10 undef) wz := facts_toR hf 2 10 (by decide) (by kernel_rfl)
   have hE := slots_mergeR [false, false, false, false, false, false, false, false, true, true, true, false, false, false] 14 hs2 rfl (by kernel_rfl) ho2
   simp only [mergeFrom, Nat.zero_add, Nat.reduceAdd, k0, k1, k2] at hE
   obtain ⟨TT, DD⟩ := ac
   simp only at hE hd
   subst hd hE
   clear k0 k1 k2 hf hs2 ho2
   simp only [List.drop_succ_cons, List.drop_zero]
   obtain ⟨W5, hW5, hr5, hb5⟩ : ∃ W5, wz.alloc (.cells #[.int .u8 t.kind, .int .i64 t.num, .string t.name, .slice a t.args.length c, .int .u8 u.kind, .int .i64 u.num, .string u.name, .slice a10 u.args.length c10] 24) = W5 ∧ W5.heap[wz.heap.size]? = some (.cells #[.int .u8 t.kind, .int .i64 t.num, .string t.name, .slice a t.args.length c, .int .u8 u.kind, .int .i64 u.num, .string u.name, .slice a10 u.args.length c10] 24 (0, 0)) ∧ Below wz.heap.size wz W5 :=
     ⟨_, rfl, World.alloc_heap_new _ _, bR.alloc (Nat.le_refl _) _⟩
   have hz5 : W5.heap.size = wz.heap.size + 1 := by rw [← hW5]; simp
   have hO5 := hbz.trans (On.of_below (P := P) hb5)
   have hT5 := hO5.row HR4.out HTP.out
   have hTl := (gL HR4.out)
   have hTW : W.heap.size < T := by have := HZ2.out.2; have := HZ1.out; omega
   have hq := setTerm W5 T _ _ _ _ (.int .u8 6) (.int .i64 0) (.string ⟨#[]⟩) (.slice (some ⟨wz.heap.size, 0, none⟩) 2 2) _ hT5
   obtain ⟨W6, hW6, hr6, hb6, hz6, hk6⟩ := hq
   have y0 := cells_at hT5 0 _ rfl
   have y1 := cells_at hT5 1 _ rfl
   have y2 := cells_at hT5 2 _ rfl
   have y3 := cells_at hT5 3 _ rfl
   have hfy := row_frozen hT5
   have u0 := cells_at hr6 0 _ rfl
   have u1 := cells_at hr6 1 _ rfl
   have u2 := cells_at hr6 2 _ rfl
   have u3 := cells_at hr6 3 _ rfl
   have hok1 : IsTmIn (fun b => W1.heap.size ≤ b ∧ b < W5.heap.size ∧ b ≠ T) W5 _ _ _ _ t := HT4.out.keep fun b hf => ⟨⟨hf.1, Nat.lt_of_lt_of_le hf.2.1 hO5.size, hf.2.2⟩, hO5.block b hf.2.1 (by have := HP.out; have := HZ1.out; have := hf.1; omega)⟩
   have hok2 : IsTmIn (fun b => W1.heap.size ≤ b ∧ b < W5.heap.size ∧ b ≠ T) W5 _ _ _ _ u := ht10.keep fun b hf => ⟨⟨by have := HZ2.out.2; omega, by omega, by omega⟩, hb5.block b hf.2⟩
   have hnew := twoTerm (k := 6) (s := ⟨#[]⟩) (ok := fun b => W1.heap.size ≤ b ∧ b < W5.heap.size ∧ b ≠ T) hr5 hok1 hok2 ⟨by have := HZ2.out.2; have := hbz.size; omega, by omega, by have := hbz.size; omega⟩ (by decide) (by unfold maxLen; decide)
   have HNEW := Hi (hnew.keep fun b hf => ⟨⟨hf.1, by rw [hz6]; exact hf.2.1⟩, hk6 b hf.2.2⟩ : IsTmIn (fun b => W1.heap.size ≤ b ∧ b < W6.heap.size) W6 _ _ _ _ _)
   have HIE := Hi ((hI10.grow hb5).below hb6 (show P < T from HZ2.out.1))
   have HOE := Hi (show On P W W6 from ((On.of_below HB1.out).trans (HO4.out.trans hO5)).fresh hb6 (by omega))
   have hro := (hk6 W.heap.size (by omega)).trans ((HO4.out.trans hO5).row HR1.out (by have := HP.out; omega))
   have o0 := cells_at hro 0 _ rfl
   have o1 := cells_at hro 1 _ rfl
   have o2 := cells_at hro 2 _ rfl
   have o3 := cells_at hro 3 _ rfl
   have hff := row_frozen hro
   obtain ⟨W9, hW9, hr9, hb9, hz9, hk9⟩ := setTerm W6 W.heap.size _ _ _ _ (.int .u8 6) (.int .i64 0) (.string ⟨#[]⟩) (.slice (some ⟨wz.heap.size, 0, none⟩) 2 2) _ hro
   have HR9 := Hi hr9
   have HB9 := Hi (And.intro hb9 (And.intro hz9 hk9))
   clear hro hr9 hb9 hz9 hk9 hok1 hok2 hnew hr5 hb5 hz5 hO5 hT5 hTl hr6 hb6 hz6 hk6 ht10 hI10 hbz
   go_wp2
   refine bodyPost_ret (v := .agg #[.int .u8 6, .int .i64 0, .string ⟨#[]⟩, .slice (some ⟨wz.heap.size, 0, none⟩) 2 2]) (by simp [results, Tryz.f107, go_sem, cells_at HR9.out 0 _ rfl, cells_at HR9.out 1 _ rfl, cells_at HR9.out 2 _ rfl, cells_at HR9.out 3 _ rfl]) rfl ?_
   obtain ⟨hb9, hz9, hk9⟩ := HB9.out
   exact ⟨⟨_, _, rfl, HNEW.out.keep fun b hf => ⟨⟨by have := HZ1.out; omega, by rw [hz9]; exact hf.2⟩, hk9 b (by have := HZ1.out; have := hf.1; omega)⟩⟩, HIE.out.below (hb9.mono (Nat.le_refl _)) HP.out, HOE.out.fresh hb9 (Nat.le_refl _)⟩
theorem part_step {l : List Tk} {P f : Nat} (hf : PC l P 150 (fun i => sumP f l i)) : PC l P 107 (fun i => partP (f + 1) l i) := by
 intro n t m W h hr
 simp only [partP] at hr
 split at hr
 · cases hr
 · rename_i t0 m0 h0
   split at hr
   · rename_i hs
     split at hr
     · cases hr
     · rename_i u m' hpi
       cases hr
       exact part_two hf h h0 hs hpi
   · rename_i hs
     cases hr
     exact part_one hf h h0 (by simpa using hs)
theorem parse_any (l : List Tk) (P : Nat) : ∀ f : Nat, PC l P 202 (fun i => factorP f l i) ∧ PC l P 214 (fun i => namedP f l i) ∧ PC l P 176 (fun i => productP f l i) ∧ PC l P 150 (fun i => sumP f l i) ∧ PC l P 107 (fun i => partP f l i)
 | 0 => ⟨fun _ _ _ _ _ h => by simp [factorP] at h, fun _ _ _ _ _ h => by simp [namedP] at h, fun _ _ _ _ _ h => by simp [productP] at h, fun _ _ _ _ _ h => by simp [sumP] at h, fun _ _ _ _ _ h => by simp [partP] at h⟩
 | f + 1 => by
   obtain ⟨h1, h2, h3, h4, h5⟩ := parse_any l P f
   exact ⟨factor_step h1 h5 h2, named_step h5, product_step h1, sum_step h3, part_step h4⟩
end Go.Proofs.YtlmdhlckgbgfhaaGreatDoor
namespace Go.Proofs.YtlmdhlckgbgfhaaGreatDoor
open Go.RowKit Go.Shelf
attribute [local go_sem] Oper.semAt_some

def tokOkB (l : List Tk) : Bool := decide (l.length ≤ 40000) && l.all fun x => decide (x.t.size ≤ 1000)
theorem tokOk_of {l : List Tk} (h : tokOkB l = true) : TokOk l := by
 unfold tokOkB at h
 rw [Bool.and_eq_true, decide_eq_true_eq, List.all_eq_true] at h
 exact ⟨h.1, fun x hx => by have := of_decide_eq_true (h.2 x hx); unfold maxLen; omega⟩
theorem cellsR_tok : ∀ (l : List Tk) (i : Nat) (x : Tk), l[i]? = some x → (cellsR l)[i * 3]? = some (.int .i64 x.k) ∧ (cellsR l)[i * 3 + 1]? = some (.string x.t) ∧ (cellsR l)[i * 3 + 2]? = some (.int .i64 x.a)
 | [], i, x, h => by simp at h
 | y :: r, 0, x, h => by
   simp only [List.getElem?_cons_zero, Option.some.injEq] at h
   subst h
   exact ⟨rfl, rfl, rfl⟩
 | y :: r, i + 1, x, h => by
   have := cellsR_tok r i x (by simpa using h)
   simp only [cellsR]
   rw [show (i + 1) * 3 = i * 3 + 3 by omega]
   simpa using this
theorem of04_any (s : ByteArray) (W : World) (hs : s.size ≤ 32768) (he : lexErr s = none) (hk : tokOkB (lexAll s) = true) :
   Calls Tryz.prog 71 #[.string s] W fun e w' => ∃ g, e = .returned (.pointer (some ⟨g, 0, none⟩)) ∧ W.heap.size ≤ g ∧ InAt (lexAll s) g 0 w' ∧ Below W.heap.size W w' := by
 have HL := Hi (rlex_any s W hs)
 have HE := Hi he
 have HO := Hi (tokOk_of hk)
 clear he hk
 go_enter Tryz.func71, Tryz.ntmps71
 go_wp2_with (go_at_call 106; refine HL.out.mono ?_; clear HL; intro e w2 hp; unfold RPost at hp; rw [HE.out] at hp; obtain ⟨hb2, v, rfl, hrow⟩ := hp; obtain ⟨a, nn, cap, rfl⟩ := ownSlice hrow; have HROW := Hi hrow; have HB2 := Hi hb2; clear hb2 hrow)
 go_ret
 have hrow := HROW.out
 have hB := HB2.out
 refine ⟨w2.heap.size, rfl, hB.size, ⟨HO.out, Nat.zero_le _, ?_⟩, hB.alloc hB.size _⟩
 have hrow0 := hrow
 obtain ⟨hl, ⟨e1, h0⟩ | ⟨g, c, cur, e1, hg, hblk, hc, hm, _, _⟩⟩ := hrow
 · cases e1
   have hnil : lexAll s = [] := List.length_eq_zero_iff.1 h0
   exact ⟨none, 0, (s.size : Int), by rw [h0]; exact World.alloc_heap_new _ _, fun hne => absurd hnil hne⟩
 · cases e1
   refine ⟨some ⟨g, 0, none⟩, cap, (s.size : Int), World.alloc_heap_new _ _, fun _ => ⟨g, 0, rfl, (gL hblk), fun i x hx => ?_⟩⟩
   obtain ⟨h1, h2, h3⟩ := cellsR_tok _ i x hx
   have hcell : ∀ j u, (cellsR (lexAll s))[j]? = some u → (w2.alloc (.cells (recI (some ⟨g, 0, none⟩) (lexAll s).length cap 0 (s.size : Int)) 111)).cell? ⟨g, 0 + j, none⟩ = some u := by
     intro j u hj
     have := hrow0.cells (g := g) rfl j u hj
     rw [Addr.add_lit] at this
     exact (cell_block (Below.heap_alloc _ _ _ (gL hblk))).trans this
   exact ⟨hcell _ _ h1, hcell _ _ h2, hcell _ _ h3⟩

def readS (f : Nat) (s : ByteArray) : Option Tm := if decide (s.size ≤ 32768) && (lexErr s).isNone && tokOkB (lexAll s) then (match partP f (lexAll s) 0 with | none => none | some (t, m) => if t.depth ≤ 12 ∧ m = (lexAll s).length then some t else none) else none
theorem term04_any {l : List Tk} {P f : Nat} {W : World} (h : InAt l P 0 W) {t : Tm} {m : Nat} (hp : partP f l 0 = some (t, m)) (hd : t.depth ≤ 12) :
   Calls Tryz.prog 72 #[.pointer (some ⟨P, 0, none⟩)] W (PPost l P m t W) := by
 obtain ⟨W1, hW1, hr1, hb1, hz1⟩ := rowTerm W (.int .u8 0) (.int .i64 0) (.string ⟨#[]⟩) (.slice none 0 0)
 have hI1 := h.grow hb1
 obtain ⟨_, _, _, _, p1, _, _, _⟩ := hI1.cells
 have HK := Hi ((parse_any l P f).2.2.2.2 _ _ _ W1 hI1 hp)
 have HR1 := Hi hr1
 have HB1 := Hi hb1
 have HP := Hi h.lt
 have HZ1 := Hi hz1
 have HD := Hi hd
 clear h hI1 hp hd hr1 hb1 hz1
 go_enter Tryz.func72, Tryz.ntmps72
 go_wp2_with (first
   | (go_at_call 107; refine HK.out.mono ?_; clear HK; rintro e W2 ⟨⟨a, c, rfl, ht2⟩, hI2, hO2⟩
      obtain ⟨W3, hW3, hr3, hb3, hz3⟩ := rowTerm W2 (.int .u8 t.kind) (.int .i64 t.num) (.string t.name) (.slice a t.args.length c)
      have ht3 : IsTmIn (fun b => W1.heap.size ≤ b ∧ b < W2.heap.size) W3 _ _ _ _ t := ht2.keep fun b hf => ⟨hf, hb3.block b hf.2⟩
      have HDE := Hi (deep_any (P := P) (at' := 0) 0 (by decide) t _ _ _ _ W3 (ht3.isTm fun b hf => by omega) HD.out)
      have HO3 := Hi (hO2.trans (On.of_below hb3))
      have HI3 := Hi (hI2.grow hb3)
      have HZ2 := Hi (And.intro hI2.lt hO2.size)
      have HR3 := Hi hr3
      have HT3 := Hi (show IsTmIn (fun b => W1.heap.size ≤ b ∧ b < W3.heap.size) W3 _ _ _ _ t from ht3.keep fun b hf => ⟨⟨hf.1, by omega⟩, rfl⟩)
      have HW3 := Hi hW3
      have q0 := cells_at hr3 0 _ rfl
      have q1 := cells_at hr3 1 _ rfl
      have q2 := cells_at hr3 2 _ rfl
      have q3 := cells_at hr3 3 _ rfl
      clear ht2 hI2 hO2 hr3 hb3 hz3 ht3)
   | (go_at_call 108; refine HDE.out.mono ?_; clear HDE; rintro e W4 ⟨rfl, hB4⟩
      have hO4 := On.of_below (P := P) hB4
      have hr4 := hO4.row HR3.out (by have := HZ2.out.1; omega)
      have u0 := cells_at hr4 0 _ rfl
      have u1 := cells_at hr4 1 _ rfl
      have u2 := cells_at hr4 2 _ rfl
      have u3 := cells_at hr4 3 _ rfl
      have HIE := Hi (HI3.out.grow hB4)
      have HOE := Hi (HO3.out.trans hO4)
      have HT4 := Hi (show IsTmIn (fun b => W1.heap.size ≤ b ∧ b < W4.heap.size) W4 _ _ _ _ t from HT3.out.keep fun b hf => ⟨⟨hf.1, Nat.lt_of_lt_of_le hf.2 hB4.size⟩, hB4.block b hf.2⟩)
      have hro := HOE.out.row HR1.out (by have := HP.out; omega)
      have o0 := cells_at hro 0 _ rfl
      have o1 := cells_at hro 1 _ rfl
      have o2 := cells_at hro 2 _ rfl
      have o3 := cells_at hro 3 _ rfl
      have hff := row_frozen hro
      obtain ⟨W9, hW9, hr9, hb9, hz9, hk9⟩ := setTerm W4 W.heap.size _ _ _ _ (.int .u8 t.kind) (.int .i64 t.num) (.string t.name) (.slice a t.args.length c) _ hro
      have HR9 := Hi hr9
      have HB9 := Hi (And.intro hb9 (And.intro hz9 hk9))
      clear hO4 hB4 hr4 hro hr9 hb9 hz9 hk9))
 refine bodyPost_ret (v := .agg #[.int .u8 t.kind, .int .i64 t.num, .string t.name, .slice a t.args.length c]) (by simp [results, Tryz.f72, go_sem, cells_at HR9.out 0 _ rfl, cells_at HR9.out 1 _ rfl, cells_at HR9.out 2 _ rfl, cells_at HR9.out 3 _ rfl]) rfl ?_
 obtain ⟨hb9, hz9, hk9⟩ := HB9.out
 exact ⟨⟨_, _, rfl, HT4.out.keep fun b hf => ⟨⟨by have := HZ1.out; omega, by rw [hz9]; exact hf.2⟩, hk9 b (by have := HZ1.out; have := hf.1; omega)⟩⟩, HIE.out.below (hb9.mono (Nat.le_refl _)) HP.out, ((On.of_below HB1.out).trans HOE.out).fresh hb9 (Nat.le_refl _)⟩
def NewT (t : Tm) (W : World) (v : Value) (W' : World) : Prop := ∃ a cap, v = .agg #[.int .u8 t.kind, .int .i64 t.num, .string t.name, .slice a t.args.length cap] ∧
 IsTmIn (fun b => W.heap.size ≤ b ∧ b < W'.heap.size) W' (.int .u8 t.kind) (.int .i64 t.num) (.string t.name) (.slice a t.args.length cap) t ∧ Below W.heap.size W W'
theorem Term04_any (f : Nat) (s : ByteArray) (t : Tm) (hr : readS f s = some t) (W : World) :
   Calls Tryz.prog 40 #[.string s] W fun e w' => ∃ v, e = .returned (.tuple #[v, .int .i64 0, .int .i64 0]) ∧ NewT t W v w' := by
 unfold readS at hr
 split at hr
 case isFalse => cases hr
 rename_i hc
 simp only [Bool.and_eq_true, decide_eq_true_eq, Option.isNone_iff_eq_none] at hc
 obtain ⟨⟨hs, he⟩, hk⟩ := hc
 split at hr
 · cases hr
 rename_i t' m hp
 split at hr
 case isFalse => cases hr
 rename_i hdm
 obtain ⟨hd, rfl⟩ := hdm
 cases hr
 obtain ⟨W1, hW1, hr1, hb1, hz1⟩ := rowTerm W (.int .u8 0) (.int .i64 0) (.string ⟨#[]⟩) (.slice none 0 0)
 have HOF := Hi (of04_any s W1 hs he hk)
 have HPP := Hi (fun (P : Nat) (W : World) (h : InAt (lexAll s) P 0 W) => term04_any h hp hd)
 obtain ⟨l, hl⟩ : ∃ l, lexAll s = l := ⟨_, rfl⟩
 rw [hl] at HOF HPP
 have HR1 := Hi hr1
 have HB1 := Hi hb1
 have HZ1 := Hi hz1
 clear hs he hk hp hd hl hr1 hb1 hz1
 go_enter Tryz.func40, Tryz.ntmps40
 go_wp2_with (first
   | (go_at_call 71; refine HOF.out.mono ?_; clear HOF; rintro e W2 ⟨P, rfl, hP, hI2, hB2⟩
      have HTM := Hi (HPP.out P W2 hI2)
      have HP := Hi (And.intro hP hI2.lt)
      have HB2 := Hi hB2
      clear hP hI2 hB2)
   | (go_at_call 72; refine HTM.out.mono ?_; clear HTM; rintro e W3 ⟨⟨a, c, rfl, ht3⟩, hI3, hO3⟩
      obtain ⟨W4, hW4, hr4, hb4, hz4⟩ := rowTerm W3 (.int .u8 t.kind) (.int .i64 t.num) (.string t.name) (.slice a t.args.length c)
      have HB4 := Hi (show Below W1.heap.size W1 W4 from HB2.out.trans ((hO3.below HP.out.1 HB2.out.size).trans (hb4.mono (by have := HB2.out.size; have := hO3.size; omega))))
      have HI4 := Hi (hI3.grow hb4)
      have HR4 := Hi hr4
      have HT4 := Hi (show IsTmIn (fun b => W1.heap.size ≤ b ∧ b < W4.heap.size ∧ b ≠ W3.heap.size) W4 _ _ _ _ t from ht3.keep fun b hf => ⟨⟨by have := HB2.out.size; omega, by omega, by omega⟩, hb4.block b hf.2⟩)
      have HZ3 := Hi (show W1.heap.size ≤ W3.heap.size from by have := HB2.out.size; have := hO3.size; omega)
      have HW4 := Hi hW4
      clear hI3 hO3 ht3 hr4 hb4 hz4 hW4))
 rw [HW4.out]
 obtain ⟨_, _, _, p0, p1, p2, p8, _⟩ := HI4.out.cells
 have hlt : ¬ ((l.length : Int) < (l.length : Int)) := by omega
 have hlb : decide ((l.length : Int) < (l.length : Int)) = false := decide_eq_false hlt
 obtain ⟨T, hT⟩ : ∃ T, W3.heap.size = T := ⟨_, rfl⟩
 rw [hT] at HR4 HT4 HZ3 ⊢
 clear hT
 obtain ⟨len, hlen⟩ : ∃ len, l.length = len := ⟨_, rfl⟩
 rw [hlen] at p0 p1 hlt hlb
 clear hlen
 go_quiet (fail)
 generalize hW9 : World.drewN _ _ = W9
 have HR9 := Hi (show W9.heap[T]? = some (.cells #[.int .u8 t.kind, .int .i64 t.num, .string t.name, .slice a t.args.length c] 24 (0, 0)) by rw [← hW9]; exact HR4.out)
 have p8' : W9.cell? ⟨P, 8, none⟩ = some (.int .i64 0) := by rw [← hW9]; exact p8
 have HB9 := Hi (show Below W1.heap.size W1 W9 by rw [← hW9]; exact HB4.out.trans ⟨rfl, rfl, rfl, Nat.le_refl _, fun _ _ => rfl⟩)
 have HT9 := Hi (show IsTmIn (fun b => W1.heap.size ≤ b ∧ b < W9.heap.size ∧ b ≠ T) W9 (.int .u8 t.kind) (.int .i64 t.num) (.string t.name) (.slice a t.args.length c) t from HT4.out.keep fun b hf => ⟨⟨hf.1, by rw [← hW9]; exact hf.2.1, hf.2.2⟩, by rw [← hW9]; rfl⟩)
 have z0 := cells_at HR9.out 0 _ rfl
 have z1 := cells_at HR9.out 1 _ rfl
 have z2 := cells_at HR9.out 2 _ rfl
 have z3 := cells_at HR9.out 3 _ rfl
 have hro := (HB9.out.block W.heap.size (by have := HZ1.out; omega)).trans HR1.out
 have o0 := cells_at hro 0 _ rfl
 have o1 := cells_at hro 1 _ rfl
 have o2 := cells_at hro 2 _ rfl
 have o3 := cells_at hro 3 _ rfl
 have hff := row_frozen hro
 obtain ⟨W10, hW10, hr10, hb10, hz10, hk10⟩ := setTerm W9 W.heap.size _ _ _ _ (.int .u8 t.kind) (.int .i64 t.num) (.string t.name) (.slice a t.args.length c) _ hro
 have HR10 := Hi hr10
 have HB10 := Hi (And.intro hb10 (And.intro hz10 hk10))
 clear hW9 p0 p1 p2 p8 hro hr10 hb10 hz10 hk10 hlt hlb
 go_wp2
 refine bodyPost_ret (v := .tuple #[.agg #[.int .u8 t.kind, .int .i64 t.num, .string t.name, .slice a t.args.length c], .int .i64 0, .int .i64 0]) (by simp [results, Tryz.f40, go_sem, cells_at HR10.out 0 _ rfl, cells_at HR10.out 1 _ rfl, cells_at HR10.out 2 _ rfl, cells_at HR10.out 3 _ rfl]) rfl ?_
 obtain ⟨hb10, hz10, hk10⟩ := HB10.out
 refine ⟨_, rfl, a, c, rfl, HT9.out.keep fun b hf => ⟨⟨by have := HZ1.out; omega, by rw [hz10]; exact hf.2.1⟩, hk10 b (by have := HZ1.out; have := hf.1; omega)⟩, ?_⟩
 exact HB1.out.trans ((HB9.out.mono HB1.out.size).trans hb10)
theorem read07_any (f : Nat) (s : ByteArray) (t : Tm) (hr : readS f s = some t) (W : World) :
   Calls Tryz.prog 20 #[.string s] W fun e w' => ∃ v, e = .returned v ∧ NewT t W v w' := by
 obtain ⟨W1, hW1, hr1, hb1, hz1⟩ := rowTerm W (.int .u8 0) (.int .i64 0) (.string ⟨#[]⟩) (.slice none 0 0)
 have HTM := Hi (Term04_any f s t hr W1)
 have HR1 := Hi hr1
 have HB1 := Hi hb1
 have HZ1 := Hi hz1
 clear hr hr1 hb1 hz1
 go_enter Tryz.func20, Tryz.ntmps20
 go_wp2_with (first
   | (go_at_call 40; refine HTM.out.mono ?_; clear HTM; rintro e W3 ⟨v, rfl, a, c, rfl, ht3, hb3⟩
      obtain ⟨W4, hW4, hr4, hb4, hz4⟩ := rowTerm W3 (.int .u8 t.kind) (.int .i64 t.num) (.string t.name) (.slice a t.args.length c)
      have HB4 := Hi (show Below W1.heap.size W1 W4 from hb3.trans (hb4.mono hb3.size))
      have HT4 := Hi (show IsTmIn (fun b => W1.heap.size ≤ b ∧ b < W4.heap.size) W4 _ _ _ _ t from ht3.keep fun b hf => ⟨⟨hf.1, by omega⟩, hb4.block b hf.2⟩)
      have z0 := cells_at hr4 0 _ rfl
      have z1 := cells_at hr4 1 _ rfl
      have z2 := cells_at hr4 2 _ rfl
      have z3 := cells_at hr4 3 _ rfl
      have hro := (HB4.out.block W.heap.size (by have := HZ1.out; omega)).trans HR1.out
      have o0 := cells_at hro 0 _ rfl
      have o1 := cells_at hro 1 _ rfl
      have o2 := cells_at hro 2 _ rfl
      have o3 := cells_at hro 3 _ rfl
      have hff := row_frozen hro
      obtain ⟨W10, hW10, hr10, hb10, hz10, hk10⟩ := setTerm W4 W.heap.size _ _ _ _ (.int .u8 t.kind) (.int .i64 t.num) (.string t.name) (.slice a t.args.length c) _ hro
      have HR10 := Hi hr10
      have HB10 := Hi (And.intro hb10 (And.intro hz10 hk10))
      clear hr4 hb4 hz4 hb3 ht3 hro hr10 hb10 hz10 hk10))
 refine bodyPost_ret (v := .agg #[.int .u8 t.kind, .int .i64 t.num, .string t.name, .slice a t.args.length c]) (by simp [results, Tryz.f20, go_sem, cells_at HR10.out 0 _ rfl, cells_at HR10.out 1 _ rfl, cells_at HR10.out 2 _ rfl, cells_at HR10.out 3 _ rfl]) rfl ?_
 obtain ⟨hb10, hz10, hk10⟩ := HB10.out
 refine ⟨_, rfl, a, c, rfl, HT4.out.keep fun b hf => ⟨⟨by have := HZ1.out; omega, by rw [hz10]; exact hf.2⟩, hk10 b (by have := HZ1.out; have := hf.1; omega)⟩, ?_⟩
 exact HB1.out.trans ((HB4.out.mono HB1.out.size).trans hb10)
end Go.Proofs.YtlmdhlckgbgfhaaGreatDoor
namespace Go.Proofs.YtlmdhlckgbgfhaaGreatDoor
open Go.RowKit

mutual
def sameB (t t' : Tm) : Bool := match t, t' with
 | .mk k n s us, .mk k' n' s' us' => (k == k') && ((n == n') && ((s.toList == s'.toList) && sameL us us'))
def sameL (us us' : List Tm) : Bool := match us, us' with
 | [], [] => true
 | t :: ts, t' :: ts' => sameB t t' && sameL ts ts'
 | _, _ => false
end
theorem bytes_inj {s t : ByteArray} (h : s.toList = t.toList) : s = t := by
 rw [ByteArray.toList_eq, ByteArray.toList_eq] at h
 cases s; cases t
 simp only at h
 congr 1
 exact Array.toList_inj.1 h
mutual
theorem sameB_iff : ∀ t t' : Tm, sameB t t' = true ↔ t = t'
 | .mk k n s us, .mk k' n' s' us' => by
   simp only [sameB, Bool.and_eq_true, beq_iff_eq, sameL_iff us us']
   constructor
   · rintro ⟨rfl, rfl, h, rfl⟩; rw [bytes_inj h]
   · intro e; injection e with e1 e2 e3 e4; subst e1 e2 e3 e4; exact ⟨rfl, rfl, rfl, rfl⟩
theorem sameL_iff : ∀ us us' : List Tm, sameL us us' = true ↔ us = us'
 | [], [] => by simp [sameL]
 | [], _ :: _ => by simp [sameL]
 | _ :: _, [] => by simp [sameL]
 | t :: ts, t' :: ts' => by simp only [sameL, Bool.and_eq_true, sameB_iff t t', sameL_iff ts ts', List.cons.injEq]
end
theorem sameL_len {us us' : List Tm} (h : us.length ≠ us'.length) : sameL us us' = false := by
 cases e : sameL us us' with
 | false => rfl
 | true => exact absurd (congrArg List.length ((sameL_iff us us').1 e)) h

def SmAt (B : Nat) (t : Tm) : Prop := ∀ (t' : Tm) (c0 c1 c2 c3 d0 d1 d2 d3 : Value) (W : World), IsTm B W c0 c1 c2 c3 t → IsTm B W d0 d1 d2 d3 t' → B ≤ W.heap.size →
 Calls Tryz.prog 22 #[.agg #[c0, c1, c2, c3], .agg #[d0, d1, d2, d3]] W fun e W' => e = .returned (.bool (sameB t t')) ∧ Below W.heap.size W W'

set_option maxRecDepth 100000 in
set_option maxHeartbeats 2000000 in
theorem sameTerms_at (B : Nat) (us us' : List Tm) (ih : ∀ t ∈ us, SmAt B t) (a a' : Option Addr) (cap cap' : Nat) (W : World) (hB : B ≤ W.heap.size) (hl : us.length ≤ maxLen) (_hl' : us'.length ≤ maxLen)
   (hargs : us ≠ [] → ∃ b off, a = some ⟨b, off, none⟩ ∧ b < B ∧ IsTms B W b off us) (hargs' : us' ≠ [] → ∃ b off, a' = some ⟨b, off, none⟩ ∧ b < B ∧ IsTms B W b off us') :
   Calls Tryz.prog 41 #[.slice a us.length cap, .slice a' us'.length cap'] W fun e W' => e = .returned (.bool (sameL us us')) ∧ Below W.heap.size W W' := by
 unfold maxLen at hl
 have HA := Hi hargs; clear hargs
 have HA' := Hi hargs'; clear hargs'
 have IH := Hi ih; clear ih
 by_cases hlen : us.length = us'.length
 case neg =>
   rw [sameL_len hlen]
   have e1 : ((us.length : Int) != (us'.length : Int)) = true := by simp; omega
   go_enter Tryz.func41, Tryz.ntmps41
   go_wp2
   go_ret
   exact ⟨rfl, Below.refl _ _⟩
 rw [← hlen]
 have HL := Hi hlen
 clear hlen
 obtain ⟨R, hR⟩ : ∃ R, sameL us us' = R := ⟨_, rfl⟩
 rw [hR]
 go_enter Tryz.func41, Tryz.ntmps41
 go_wp2_with fail
 go_loopw [5] (fun i wr => ∃ (j : Nat), j ≤ us.length ∧ i = .int .i64 j ∧ sameL (us.drop j) (us'.drop j) = R ∧ Below W.heap.size W wr) (fun i _ => us.length - (intOf i).toNat)
 case atStart => exact ⟨0, by omega, by go_num, by simpa using hR, Below.refl _ _⟩
 case round =>
   obtain ⟨j, hj, rfl, hk, hBr⟩ := hrel
   clear hR
   by_cases hlt : j < us.length
   · have hlen := HL.out
     have hlt' : j < us'.length := by omega
     rw [List.drop_eq_getElem_cons (l := us) hlt, List.drop_eq_getElem_cons (l := us') hlt'] at hk
     simp only [sameL] at hk
     obtain ⟨b, off, rfl, hb, hI⟩ := HA.out (by intro e; rw [e] at hlt; simp at hlt)
     obtain ⟨b', off', rfl, hb', hI'⟩ := HA'.out (by intro e; rw [e] at hlen; simp at hlen; rw [hlen] at hlt; simp at hlt)
     obtain ⟨c0, c1, c2, c3, e0, e1, e2, e3, hc⟩ := hI.at j hlt
     obtain ⟨d0, d1, d2, d3, k0, k1, k2, k3, hd⟩ := hI'.at j hlt'
     have hsz := hBr.size
     have g0 := (hBr.cell (p := ⟨b, off + j * 4, none⟩) (by show b < _; omega)).trans e0
     have g1 := (hBr.cell (p := ⟨b, off + j * 4 + 1, none⟩) (by show b < _; omega)).trans e1
     have g2 := (hBr.cell (p := ⟨b, off + j * 4 + 2, none⟩) (by show b < _; omega)).trans e2
     have g3 := (hBr.cell (p := ⟨b, off + j * 4 + 3, none⟩) (by show b < _; omega)).trans e3
     have l0 := (hBr.cell (p := ⟨b', off' + j * 4, none⟩) (by show b' < _; omega)).trans k0
     have l1 := (hBr.cell (p := ⟨b', off' + j * 4 + 1, none⟩) (by show b' < _; omega)).trans k1
     have l2 := (hBr.cell (p := ⟨b', off' + j * 4 + 2, none⟩) (by show b' < _; omega)).trans k2
     have l3 := (hBr.cell (p := ⟨b', off' + j * 4 + 3, none⟩) (by show b' < _; omega)).trans k3
     have HS := Hi (IH.out us[j] (List.getElem_mem hlt) us'[j] c0 c1 c2 c3 d0 d1 d2 d3 wr.drew (hc.below (hBr.mono hB).drew) (hd.below (hBr.mono hB).drew) (by show B ≤ wr.heap.size; omega))
     have hBd : Below W.heap.size W wr.drew := hBr.drew
     have hsd : W.heap.size ≤ wr.drew.heap.size := hsz
     have HBD := Hi hBd
     have HSD := Hi hsd
     cases hs : sameB us[j] us'[j]
     all_goals
       rw [hs] at hk HS
       first | rw [Bool.true_and] at hk | rw [Bool.false_and] at hk
       have HK := Hi hk
       clear e0 e1 e2 e3 k0 k1 k2 k3 hc hd hs hBd hk hsd hlen
       have i1 : (0 : Int) ≤ (j : Int) := by omega
       have i2 : (j : Int) < (us.length : Int) := by omega
       go_wp2_with fail
       go_still_tail 8, (by kernel_rfl)
       change wpList _ _ _ _ _ wr.drew
       go_wp2_with (go_at_call 22; refine HS.out.mono ?_)
       clear HS
       rintro e W2 ⟨rfl, hB2⟩
       have hB2' : Below W.heap.size W W2 := HBD.out.trans (hB2.mono HSD.out)
       clear hB2
       go_wp2_with fail
     · go_ret
       exact ⟨by rw [← HK.out]; rfl, hB2'⟩
     · go_roundw
       case rel => exact ⟨j + 1, by omega, by go_num, HK.out, hB2'⟩
       case measure => simp [intOf]; omega
   · rw [List.drop_eq_nil_of_le (by omega), List.drop_eq_nil_of_le (by have := HL.out; omega)] at hk
     simp only [sameL] at hk
     subst hk
     have HB := Hi hBr
     clear hBr
     go_wp2
     go_ret
     exact ⟨rfl, HB.out⟩

set_option maxRecDepth 100000 in
set_option maxHeartbeats 2000000 in
theorem sameTerm_at (B : Nat) (t : Tm) : SmAt B t := by
 induction t using Tm.ind with
 | h k n s us ih =>
   rintro ⟨k', n', s', us'⟩ c0 c1 c2 c3 d0 d1 d2 d3 W h1 h2 hB
   simp only [IsTm] at h1 h2
   obtain ⟨rfl, hk, rfl, hn, rfl, hs, a, cap, rfl, hl, hargs⟩ := h1
   obtain ⟨rfl, hk', rfl, hn', rfl, hs', a', cap', rfl, hl', hargs'⟩ := h2
   have hB1 : Below W.heap.size W ((W.alloc (.cells #[.int .u8 k, .int .i64 n, .string s, .slice a us.length cap] 24)).alloc (.cells #[.int .u8 k', .int .i64 n', .string s', .slice a' us'.length cap'] 24)) :=
     ((Below.refl _ W).alloc (Nat.le_refl _) _).alloc (by simp) _
   have hS := sameTerms_at B us us' ih a a' cap cap' _ (Nat.le_trans hB hB1.size) hl hl' (fun hne => by obtain ⟨b, off, h1, h2, h3⟩ := hargs hne; exact ⟨b, off, h1, h2, h3.below (hB1.mono hB) h2⟩)
     (fun hne => by obtain ⟨b, off, h1, h2, h3⟩ := hargs' hne; exact ⟨b, off, h1, h2, h3.below (hB1.mono hB) h2⟩)
   have hR : sameB (.mk k n s us) (.mk k' n' s' us') = ((k == k') && ((n == n') && ((s.toList == s'.toList) && sameL us us'))) := by simp only [sameB]
   have HS := Hi hS
   have HB := Hi hB1
   clear hS hB1 hargs hargs' ih hl hs hn hk hl' hs' hn' hk'
   cases e1 : k == k' <;> rw [e1] at hR
   · rw [Bool.false_and] at hR
     have HR := Hi hR
     clear hR
     go_enter Tryz.func22, Tryz.ntmps22
     go_wp2
     go_ret
     exact ⟨by rw [HR.out]; rfl, HB.out⟩
   cases e2 : n == n' <;> rw [e2] at hR
   · rw [Bool.false_and, Bool.and_false] at hR
     have HR := Hi hR
     clear hR
     go_enter Tryz.func22, Tryz.ntmps22
     go_wp2
     go_ret
     exact ⟨by rw [HR.out]; rfl, HB.out⟩
   cases e3 : s.toList == s'.toList <;> rw [e3] at hR
   · rw [Bool.false_and, Bool.and_false, Bool.and_false] at hR
     have HR := Hi hR
     clear hR
     go_enter Tryz.func22, Tryz.ntmps22
     go_wp2
     go_ret
     exact ⟨by rw [HR.out]; rfl, HB.out⟩
   · rw [Bool.true_and, Bool.true_and, Bool.true_and] at hR
     have HR := Hi hR
     clear hR
     go_enter Tryz.func22, Tryz.ntmps22
     go_wp2_with (go_at_call 41; refine HS.out.mono ?_; clear HS; rintro e W2 ⟨rfl, hB2⟩)
     have hBf := HB.out.trans (hB2.mono HB.out.size)
     go_ret
     exact ⟨by rw [HR.out]; rfl, hBf⟩

theorem sameTerm_any (t t' : Tm) (c0 c1 c2 c3 d0 d1 d2 d3 : Value) (W : World) (h : IsTm W.heap.size W c0 c1 c2 c3 t) (h' : IsTm W.heap.size W d0 d1 d2 d3 t') :
   Calls Tryz.prog 22 #[.agg #[c0, c1, c2, c3], .agg #[d0, d1, d2, d3]] W fun e W' => e = .returned (.bool (sameB t t')) ∧ Below W.heap.size W W' :=
 sameTerm_at W.heap.size t t' c0 c1 c2 c3 d0 d1 d2 d3 W h h' (Nat.le_refl _)

end Go.Proofs.YtlmdhlckgbgfhaaGreatDoor
namespace Go.Proofs.YtlmdhlckgbgfhaaGreatDoor
open Go.RowKit Go.Shelf
attribute [local go_sem] Oper.semAt_some

def sameBd : Bd → Bd → Bool
 | [], [] => true
 | x :: r, y :: r' => ((x.1.toList == y.1.toList) && sameB x.2 y.2) && sameBd r r'
 | _, _ => false
theorem sameBd_iff : ∀ b c : Bd, sameBd b c = true ↔ b = c
 | [], [] => by simp [sameBd]
 | [], _ :: _ => by simp [sameBd]
 | _ :: _, [] => by simp [sameBd]
 | (n, t) :: r, (n', t') :: r' => by
   simp only [sameBd, Bool.and_eq_true, beq_iff_eq, sameB_iff, sameBd_iff r r', List.cons.injEq, Prod.mk.injEq]
   constructor
   · rintro ⟨⟨h1, h2⟩, h3⟩
     exact ⟨⟨bytes_inj h1, h2⟩, h3⟩
   · rintro ⟨⟨h1, h2⟩, h3⟩
     exact ⟨⟨by rw [h1], h2⟩, h3⟩
theorem sameBd_len {b c : Bd} (h : b.length ≠ c.length) : sameBd b c = false := by
 cases e : sameBd b c with
 | false => rfl
 | true => exact absurd (congrArg List.length ((sameBd_iff b c).1 e)) h
theorem sameBind_any (m m' : ByteArray) (t t' : Tm) (c0 c1 c2 c3 d0 d1 d2 d3 : Value) (W : World) (h : IsTm W.heap.size W c0 c1 c2 c3 t) (h' : IsTm W.heap.size W d0 d1 d2 d3 t') :
   Calls Tryz.prog 39 #[.agg #[.string m, c0, c1, c2, c3], .agg #[.string m', d0, d1, d2, d3]] W fun e W' => e = .returned (.bool ((m.toList == m'.toList) && sameB t t')) ∧ Below W.heap.size W W' := by
 have h0 := h
 have h0' := h'
 obtain ⟨SB, hSB⟩ : ∃ SB, sameB t t' = SB := ⟨_, rfl⟩
 obtain ⟨k2, n2, s2, us2⟩ := t
 obtain ⟨k3, n3, s3, us3⟩ := t'
 simp only [IsTm] at h h'
 obtain ⟨rfl, _, rfl, _, rfl, _, a2, c2, rfl, _, _⟩ := h
 obtain ⟨rfl, _, rfl, _, rfl, _, a3, c3, rfl, _, _⟩ := h'
 obtain ⟨W2, hW2⟩ : ∃ W2, (W.alloc (.cells #[.string m, .int .u8 k2, .int .i64 n2, .string s2, .slice a2 us2.length c2] 40)).alloc (.cells #[.string m', .int .u8 k3, .int .i64 n3, .string s3, .slice a3 us3.length c3] 40) = W2 := ⟨_, rfl⟩
 have hb2 : Below W.heap.size W W2 := by rw [← hW2]; exact ((Below.refl _ W).alloc (Nat.le_refl _) _).alloc (by simp) _
 have HS := Hi (show Calls Tryz.prog 22 #[.agg #[.int .u8 k2, .int .i64 n2, .string s2, .slice a2 us2.length c2], .agg #[.int .u8 k3, .int .i64 n3, .string s3, .slice a3 us3.length c3]] W2 fun e W' => e = .returned (.bool SB) ∧ Below W2.heap.size W2 W' from hSB ▸ sameTerm_any _ _ _ _ _ _ _ _ _ _ W2 ((h0.below hb2).mono hb2.size) ((h0'.below hb2).mono hb2.size))
 have h1 : W2.heap[W.heap.size]? = some (.cells #[.string m, .int .u8 k2, .int .i64 n2, .string s2, .slice a2 us2.length c2] 40 (0, 0)) := by
   rw [← hW2, Below.heap_alloc _ _ _ (by simp)]
   exact World.alloc_heap_new _ _
 have h2 : W2.heap[W.heap.size + 1]? = some (.cells #[.string m', .int .u8 k3, .int .i64 n3, .string s3, .slice a3 us3.length c3] 40 (0, 0)) := by
   rw [← hW2]
   have := World.alloc_heap_new (W.alloc (.cells #[.string m, .int .u8 k2, .int .i64 n2, .string s2, .slice a2 us2.length c2] 40)) (.cells #[.string m', .int .u8 k3, .int .i64 n3, .string s3, .slice a3 us3.length c3] 40)
   rwa [World.size_alloc] at this
 have x0 := cells_at h1 0 _ rfl
 have x1 := cells_at h1 1 _ rfl
 have x2 := cells_at h1 2 _ rfl
 have x3 := cells_at h1 3 _ rfl
 have x4 := cells_at h1 4 _ rfl
 have y0 := cells_at h2 0 _ rfl
 have y1 := cells_at h2 1 _ rfl
 have y2 := cells_at h2 2 _ rfl
 have y3 := cells_at h2 3 _ rfl
 have y4 := cells_at h2 4 _ rfl
 have HB2 := Hi hb2
 rw [hSB]
 obtain ⟨l2, hl2⟩ : ∃ l, us2.length = l := ⟨_, rfl⟩
 obtain ⟨l3, hl3⟩ : ∃ l, us3.length = l := ⟨_, rfl⟩
 rw [hl2] at hW2 HS x4 ⊢
 rw [hl3] at hW2 HS y4 ⊢
 clear h0 h0' hb2 h1 h2 hSB hl2 hl3
 cases hm : (m.toList == m'.toList) with
 | true =>
   go_enter Tryz.func39, Tryz.ntmps39
   go_wp2_with (go_at_call 22; refine HS.out.mono ?_; rintro e W3 ⟨rfl, hb3⟩)
   go_ret
   exact ⟨rfl, HB2.out.trans (hb3.mono HB2.out.size)⟩
 | false =>
   go_enter Tryz.func39, Tryz.ntmps39
   go_wp2
   go_ret
   exact ⟨rfl, HB2.out⟩
theorem sameBinds_any (b c : Bd) (v v' : Value) (W : World) (hb : BdV W v b) (hc : BdV W v' c) :
   Calls Tryz.prog 17 #[v, v'] W fun e W' => e = .returned (.bool (sameBd b c)) ∧ Below W.heap.size W W' := by
 obtain ⟨a, cap, rfl, hl1, hl2, hr⟩ := hb
 obtain ⟨a', cap', rfl, hl3, hl4, hr'⟩ := hc
 have hlb : b.length ≤ maxLen := Nat.le_trans hl1 hl2
 unfold maxLen at hlb
 have HA := Hi hr; clear hr
 have HA' := Hi hr'; clear hr'
 clear hl1 hl2 hl3 hl4
 by_cases hlen : b.length = c.length
 case neg =>
   rw [sameBd_len hlen]
   have e1 : ((b.length : Int) != (c.length : Int)) = true := by simp; omega
   go_enter Tryz.func17, Tryz.ntmps17
   go_wp2
   go_ret
   exact ⟨rfl, Below.refl _ _⟩
 rw [← hlen]
 have HL := Hi hlen
 clear hlen
 obtain ⟨R, hR⟩ : ∃ R, sameBd b c = R := ⟨_, rfl⟩
 rw [hR]
 go_enter Tryz.func17, Tryz.ntmps17
 go_wp2_with fail
 go_loopw [5] (fun i wr => ∃ (j : Nat), j ≤ b.length ∧ i = .int .i64 j ∧ sameBd (b.drop j) (c.drop j) = R ∧ Below W.heap.size W wr) (fun i _ => b.length - (intOf i).toNat)
 case atStart => exact ⟨0, by omega, by go_num, by simpa using hR, Below.refl _ _⟩
 case round =>
   obtain ⟨j, hj, rfl, hk, hBr⟩ := hrel
   clear hR
   by_cases hlt : j < b.length
   · have hlen := HL.out
     have hlt' : j < c.length := by omega
     rw [List.drop_eq_getElem_cons (l := b) hlt, List.drop_eq_getElem_cons (l := c) hlt'] at hk
     simp only [sameBd] at hk
     obtain ⟨g, off, rfl, hg, hI⟩ := HA.out (by intro e; rw [e] at hlt; simp at hlt)
     obtain ⟨g', off', rfl, hg', hI'⟩ := HA'.out (by intro e; rw [e] at hlen; simp at hlen; rw [hlen] at hlt; simp at hlt)
     obtain ⟨_, e4, c0, c1, c2, c3, e0, e1, e2, e3, hc⟩ := hI.at j hlt
     obtain ⟨_, k4, d0, d1, d2, d3, k0, k1, k2, k3, hd⟩ := hI'.at j hlt'
     have hsz := hBr.size
     have g0 := (hBr.cell (p := ⟨g, off + j * 5 + 1, none⟩) hg).trans e0
     have g1 := (hBr.cell (p := ⟨g, off + j * 5 + 2, none⟩) hg).trans e1
     have g2 := (hBr.cell (p := ⟨g, off + j * 5 + 3, none⟩) hg).trans e2
     have g3 := (hBr.cell (p := ⟨g, off + j * 5 + 4, none⟩) hg).trans e3
     have g4 := (hBr.cell (p := ⟨g, off + j * 5, none⟩) hg).trans e4
     have l0 := (hBr.cell (p := ⟨g', off' + j * 5 + 1, none⟩) hg').trans k0
     have l1 := (hBr.cell (p := ⟨g', off' + j * 5 + 2, none⟩) hg').trans k1
     have l2 := (hBr.cell (p := ⟨g', off' + j * 5 + 3, none⟩) hg').trans k2
     have l3 := (hBr.cell (p := ⟨g', off' + j * 5 + 4, none⟩) hg').trans k3
     have l4 := (hBr.cell (p := ⟨g', off' + j * 5, none⟩) hg').trans k4
     have HS := Hi (sameBind_any b[j].1 c[j].1 b[j].2 c[j].2 c0 c1 c2 c3 d0 d1 d2 d3 wr.drew ((hc.below hBr.drew).mono hsz) ((hd.below hBr.drew).mono hsz))
     have hBd : Below W.heap.size W wr.drew := hBr.drew
     have hsd : W.heap.size ≤ wr.drew.heap.size := hsz
     have HBD := Hi hBd
     have HSD := Hi hsd
     cases hs : ((b[j].1.toList == c[j].1.toList) && sameB b[j].2 c[j].2)
     all_goals
       rw [hs] at hk HS
       first | rw [Bool.true_and] at hk | rw [Bool.false_and] at hk
       have HK := Hi hk
       clear e0 e1 e2 e3 e4 k0 k1 k2 k3 k4 hc hd hs hBd hk hsd hlen
       have i1 : (0 : Int) ≤ (j : Int) := by omega
       have i2 : (j : Int) < (b.length : Int) := by omega
       go_wp2_with fail
       go_still_tail 8, (by kernel_rfl)
       change wpList _ _ _ _ _ wr.drew
       go_wp2_with (go_at_call 39; refine HS.out.mono ?_)
       clear HS
       rintro e W2 ⟨rfl, hB2⟩
       have hB2' : Below W.heap.size W W2 := HBD.out.trans (hB2.mono HSD.out)
       clear hB2
       go_wp2_with fail
     · go_ret
       exact ⟨by rw [← HK.out]; rfl, hB2'⟩
     · go_roundw
       case rel => exact ⟨j + 1, by omega, by go_num, HK.out, hB2'⟩
       case measure => simp [intOf]; omega
   · rw [List.drop_eq_nil_of_le (by omega), List.drop_eq_nil_of_le (by have := HL.out; omega)] at hk
     simp only [sameBd] at hk
     subst hk
     have HB := Hi hBr
     clear hBr
     go_wp2
     go_ret
     exact ⟨rfl, HB.out⟩
end Go.Proofs.YtlmdhlckgbgfhaaGreatDoor
