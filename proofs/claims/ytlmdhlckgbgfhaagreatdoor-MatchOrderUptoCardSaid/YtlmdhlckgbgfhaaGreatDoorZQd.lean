/- The laws of match: helpers of MatchOrder. -/
import Derived.Test.YtlmdhlckgbgfhaaGreatDoorZk
import Derived.Test.YtlmdhlckgbgfhaaGreatDoorZl
import Derived.Test.YtlmdhlckgbgfhaaGreatDoorZm
import Derived.Test.YtlmdhlckgbgfhaaGreatDoorZj
set_option maxRecDepth 100000
set_option maxHeartbeats 400000000
namespace Go.Proofs.YtlmdhlckgbgfhaaGreatDoor
open Go.RowKit Go.Shelf
attribute [local go_sem] Oper.semAt_some

def runS : Int → Bd → Int
 | n, [] => n
 | n, x :: r => if n ≤ 150 then runS (n + sizeT x.2 150) r else n
theorem runS_big {n : Int} (h : ¬ n ≤ 150) : ∀ b : Bd, runS n b = n
 | [] => rfl
 | _ :: _ => by rw [runS, if_neg h]
theorem runS_sum : ∀ (b : Bd) (n : Int), 0 ≤ n → runS n b ≤ 150 → n + (sumB b : Int) ≤ 150
 | [], n, _, h => by simp only [runS] at h; simp only [sumB]; omega
 | x :: r, n, h0, h => by
   by_cases hn : n ≤ 150
   · rw [runS, if_pos hn] at h
     have hb := sizeT_bounds x.2 150
     have hw := sizeT_whole x.2 150
     have ih := runS_sum r _ (by omega) h
     have h1 := hw (by omega)
     rw [sumB]
     omega
   · rw [runS_big hn] at h; omega
def smallV (us : List Tm) (b : Bd) : Bool := decide (runS (sizeL us 0 150) b ≤ 150)
theorem smallV_sum {us : List Tm} {b : Bd} (h : smallV us b = true) : Tm.countL us + sumB b ≤ 150 := by
 have h := of_decide_eq_true h
 have hb := sizeL_bounds us 0 150
 have h1 := runS_sum b _ (by omega) h
 have h2 := sizeL_whole us 0 150 (by omega)
 omega
theorem small07_det (b : Bd) (us : List Tm) (bv : Value) (a : Option Addr) (cap : Nat) (w : World) (hb : BdV w bv b) (hl : us.length ≤ maxLen) (hargs : us ≠ [] → ∃ g off, a = some ⟨g, off, none⟩ ∧ g < w.heap.size ∧ IsTms w.heap.size w g off us) :
   Calls Tryz.prog 6 #[bv, .slice a us.length cap] w fun e w' => Below w.heap.size w w' ∧ e = .returned (.bool (smallV us b)) := by
 obtain ⟨va, vc, rfl, hl1, hl2, hr⟩ := hb
 have hlb : b.length ≤ maxLen := Nat.le_trans hl1 hl2
 unfold maxLen at hlb
 have HR := Hi hr
 have HS := Hi (sizeTerms_any us a cap 150 w hl (by decide) (by decide) hargs)
 obtain ⟨n0, hn0⟩ : ∃ n0, sizeL us 0 150 = n0 := ⟨_, rfl⟩
 have hbd := sizeL_bounds us 0 150
 obtain ⟨R, hR⟩ : ∃ R, runS n0 b = R := ⟨_, rfl⟩
 have hSV : smallV us b = decide (R ≤ 150) := by unfold smallV; rw [hn0, hR]
 rw [hn0] at HS hbd
 rw [hSV]
 obtain ⟨lu, hlu⟩ : ∃ l, us.length = l := ⟨_, rfl⟩
 rw [hlu] at HS ⊢
 have hn1 : 0 ≤ n0 ∧ n0 ≤ 151 := by omega
 have HW := Hi hR
 clear hr hl1 hl2 hl hargs hn0 hbd hlu hR hSV
 go_enter Tryz.func6, Tryz.ntmps6
 go_wp2_with (go_at_call 23; refine HS.out.mono ?_; rintro e w1 ⟨rfl, hb1⟩)
 have HB1 := Hi hb1
 clear hb1 HS
 go_loopw [5, 6] (fun s i wr => ∃ (j : Nat) (n : Int), j ≤ b.length ∧ s = .int .i64 n ∧ i = .int .i64 j ∧ (0 ≤ n ∧ n ≤ 302) ∧ runS n (b.drop j) = R ∧ Below w.heap.size w wr) (fun _ i _ => b.length - (intOf i).toNat)
 case atStart => exact ⟨0, n0, Nat.zero_le _, rfl, rfl, by omega, by rw [List.drop_zero]; exact HW.out, HB1.out⟩
 case round =>
   obtain ⟨j, n, hj, rfl, rfl, hn, hs, hB⟩ := hrel
   have HN := Hi hs
   have HB := Hi hB
   clear hs hB
   have i1 : (0 : Int) ≤ (j : Int) := by omega
   by_cases hlt : j < b.length
   · have i2 : (j : Int) < (b.length : Int) := by omega
     by_cases h150 : n ≤ 150
     · obtain ⟨g, off, rfl, hg, hI⟩ := HR.out (by intro e; rw [e] at hlt; simp at hlt)
       obtain ⟨_, _, c0, c1, c2, c3, y1, y2, y3, y4, hT⟩ := hI.at j hlt
       have z1 := (HB.out.cell (p := ⟨g, off + j * 5 + 1, none⟩) hg).trans y1
       have z2 := (HB.out.cell (p := ⟨g, off + j * 5 + 2, none⟩) hg).trans y2
       have z3 := (HB.out.cell (p := ⟨g, off + j * 5 + 3, none⟩) hg).trans y3
       have z4 := (HB.out.cell (p := ⟨g, off + j * 5 + 4, none⟩) hg).trans y4
       have hst := sizeTerm_any b[j].2 c0 c1 c2 c3 150 wr ((hT.below HB.out).mono HB.out.size) (by decide) (by decide)
       obtain ⟨sz, hsz⟩ : ∃ sz, sizeT b[j].2 150 = sz := ⟨_, rfl⟩
       have hzb := sizeT_bounds b[j].2 150
       have hdr : b.drop j = b[j] :: b.drop (j + 1) := List.drop_eq_getElem_cons hlt
       rw [hsz] at hst hzb
       have HST := Hi hst
       have HNN := Hi (show runS (n + sz) (b.drop (j + 1)) = R by
         have h := HN.out
         rw [hdr, runS, if_pos h150, hsz] at h
         exact h)
       have w1' : IntKind.i64.wrap (n + sz) = n + sz := IntWalk.i64_in _ (by omega)
       have hzz : 0 ≤ n + sz ∧ n + sz ≤ 302 := by omega
       clear hI y1 y2 y3 y4 hT hst hsz hzb hdr
       go_wp2_with (go_at_call 24; refine HST.out.mono ?_; rintro e w2 ⟨rfl, hb2⟩)
       have HB2 := Hi (HB.out.trans (hb2.mono HB.out.size))
       clear hb2
       go_roundw
       case rel => exact ⟨j + 1, n + sz, by omega, rfl, by go_num, hzz, HNN.out, HB2.out⟩
       case measure => simp [intOf]; omega
     · have HD := Hi (show decide (R ≤ 150) = false from decide_eq_false (by have h := HN.out; rw [runS_big h150] at h; omega))
       go_wp2
       go_ret
       exact ⟨HB.out, by rw [HD.out]; rfl⟩
   · have i2 : ¬ (j : Int) < (b.length : Int) := by omega
     have hRN : n = R := by
       have h := HN.out
       rw [List.drop_eq_nil_of_le (by omega)] at h
       exact h
     by_cases h150 : n ≤ 150
     · have HD := Hi (show decide (R ≤ 150) = true from decide_eq_true (by omega))
       clear hRN
       go_wp2
       go_ret
       exact ⟨HB.out, by rw [HD.out]; rfl⟩
     · have HD := Hi (show decide (R ≤ 150) = false from decide_eq_false (by omega))
       clear hRN
       go_wp2
       go_ret
       exact ⟨HB.out, by rw [HD.out]; rfl⟩

theorem HoldL.split {ok : Nat → Prop} {w : World} : ∀ {ts : List Tm} {xs : List Value} (i : Nat), HoldL ok w xs ts → HoldL ok w (xs.take (i * 4)) (ts.take i) ∧ HoldL ok w (xs.drop (i * 4)) (ts.drop i)
 | [], xs, i, h => by rw [show xs = [] from h]; simp [HoldL]
 | t :: ts, xs, 0, h => by simp only [Nat.zero_mul, List.take_zero, List.drop_zero]; exact ⟨rfl, h⟩
 | t :: ts, xs, i + 1, ⟨c0, c1, c2, c3, ys, e, h1, h⟩ => by
   have ih := h.split i
   subst e
   rw [show (i + 1) * 4 = i * 4 + 4 by omega]
   exact ⟨⟨c0, c1, c2, c3, ys.take (i * 4), by simp [List.take_succ_cons], h1, ih.1⟩, by simpa using ih.2⟩
theorem HoldL.one' {ok : Nat → Prop} {w : World} : ∀ {ts : List Tm} {xs : List Value}, HoldL ok w xs ts → ∀ u ∈ xs, u.oneCell' = true
 | [], xs, h, u, hu => by rw [show xs = [] from h] at hu; cases hu
 | .mk k m s us :: r, xs, ⟨c0, c1, c2, c3, ys, e, h1, h⟩, u, hu => by
   subst e
   simp only [IsTmIn] at h1
   obtain ⟨rfl, _, rfl, _, rfl, _, a, cap, rfl, _, _⟩ := h1
   simp only [List.mem_cons] at hu
   rcases hu with rfl | rfl | rfl | rfl | hu
   · rfl
   · rfl
   · rfl
   · rfl
   · exact h.one' u hu
theorem args_cells {w : World} {a : Option Addr} {ts : List Tm} (h : ts ≠ [] → ∃ g off, a = some ⟨g, off, none⟩ ∧ g < w.heap.size ∧ IsTms w.heap.size w g off ts) :
   ∃ xs, HoldL (· < w.heap.size) w xs ts ∧ (a = none → ts = []) ∧ ∀ W, Below w.heap.size w W → ∀ ad, a = some ad → ∀ j u, xs[j]? = some u → W.cell? (ad.add j) = some u := by
 by_cases ht : ts = []
 · subst ht
   exact ⟨[], rfl, fun _ => rfl, fun W _ ad _ j u hu => by simp at hu⟩
 · obtain ⟨g, off, rfl, hg, hi⟩ := h ht
   obtain ⟨xs, h1, h2⟩ := HoldL.of_tms (IsTms.isIns hi)
   refine ⟨xs, h1, fun e => (by cases e), fun W hW ad e j u hu => ?_⟩
   cases e
   rw [Addr.add_lit]
   exact (hW.cell (p := ⟨g, off + j, none⟩) hg).trans (h2 j u hu)
theorem old_row {w0 w : World} {base : Nat} {v : Value} {ts : List Tm} {xs : List Value} (hx : HoldL (· < w0.heap.size) w0 xs ts) (ho : w.ownsRow base 24 4 v ts.length xs) (hB : Below w0.heap.size w0 w) : RowV w v ts := by
 have hx' : HoldL (· < w.heap.size) w xs ts := hx.keep fun b hb => ⟨Nat.lt_of_lt_of_le hb hB.size, hB.block b hb⟩
 have ho0 := ho
 rcases ho.2 with ⟨rfl, h0⟩ | ⟨g, cap, cur, rfl, _, hg, hc, hm, _⟩
 · have ht : ts = [] := List.length_eq_zero_iff.1 h0
   subst ht
   exact ⟨none, 0, rfl, Nat.zero_le _, fun e => absurd rfl e⟩
 · refine ⟨_, cap, rfl, Nat.le_trans hc hm, fun _ => ⟨g, 0, rfl, (gL hg), ?_⟩⟩
   refine IsTmsIn.isTms (fun _ h => h) (hx'.tms fun j u hu => ?_)
   have := ho0.cells (g := g) rfl j u hu
   rwa [Addr.add_lit] at this
theorem own_keep {w w' : World} {base s n : Nat} {e : TypeId} {v : Value} {xs : List Value} (h : w.ownsRow base e s v n xs) (hk : ∀ g, v.ownBlock = some g → w'.heap[g]? = w.heap[g]?) : w'.ownsRow base e s v n xs := by
 refine ⟨h.1, h.2.imp id ?_⟩
 rintro ⟨g, cap, cur, rfl, q1, q2, q3⟩
 exact ⟨g, cap, cur, rfl, q1, (hk g rfl).trans q2, q3⟩
theorem info_term07 : (Tryz.prog.info? 24).map (fun i => (i.zero, i.size, i.bytes)) = some (some (.agg #[.int .u8 0, .int .i64 0, .string ⟨#[]⟩, .slice none 0 0]), 4, 56) := by kernel_rfl
theorem append_fresh (w : World) (N0 : Nat) (ty : TypeId) (g : Nat) (a : Option Addr) (m c : Nat) (news : List Value) (hn : news.length = m * 4) (ha : a = none → m = 0) (hc : ∀ ad, a = some ad → ∀ j u, news[j]? = some u → w.cell? (ad.add j) = some u)
   (hm : m ≤ 4000000) (hN : N0 ≤ w.heap.size) (h0 : w.ownsRow N0 24 4 (.slice (some ⟨g, 0, none⟩) 0 0) 0 []) :
   ∃ v' w', (Builtin.append_ #[22, 22] ty #[.slice (some ⟨g, 0, none⟩) 0 0, .slice a m c]).run Tryz.prog w = .ok v' w' ∧ w'.ownsRow N0 24 4 v' m news ∧ w.grownBy w' none := by
 obtain ⟨i0, hi, hz0, hz1, hz2⟩ := info_parts info_term07
 by_cases h : m = 0
 · subst h
   have hn0 : news = [] := List.eq_nil_of_length_eq_zero (by simpa using hn)
   subst hn0
   refine ⟨_, w, ?_, h0, World.grownBy.refl _ _⟩
   cases a <;> simp [Builtin.append_, run_underlying Tryz.underlying22, sizeOf, typeInfo, hi, Builtin.lenOf, Builtin.firstCells, loadCells, loadCellsFrom, storeCells]
 · cases a with
   | none => exact absurd (ha rfl) h
   | some ad =>
     obtain ⟨v', w', hr, h1, h2⟩ := run_append_arg_grows (P := Tryz.prog) w 22 ty 24 i0 _ 4 56 Tryz.underlying22 hi hz0 hz1 hz2 rfl (by decide) ⟨g, 0, none⟩ 0 0 [] rfl (fun j u hj => by simp at hj) ad m c news hn (hc ad rfl) (by omega) (by unfold maxLen; omega) (by omega)
     refine ⟨v', w', hr, ?_, h2⟩
     have h1' : w'.ownsRow w.heap.size 24 4 v' m news := by simpa using h1
     refine ⟨h1'.1, h1'.2.imp id ?_⟩
     rintro ⟨g, cap, cur, e, q1, q2⟩
     exact ⟨g, cap, cur, e, Nat.le_trans hN q1, q2⟩
theorem append_more (w : World) (N0 : Nat) (ty : TypeId) (v : Value) (n : Nat) (xs : List Value) (a : Option Addr) (m c : Nat) (news : List Value) (hn : news.length = m * 4) (ha : a = none → m = 0) (hc : ∀ ad, a = some ad → ∀ j u, news[j]? = some u → w.cell? (ad.add j) = some u) (h1 : ∀ u ∈ news, u.oneCell' = true)
   (hm : n + m ≤ 4000000) (hN : N0 ≤ w.heap.size) (h0 : w.ownsRow N0 24 4 v n xs) :
   ∃ v' w', (Builtin.append_ #[22, 22] ty #[v, .slice a m c]).run Tryz.prog w = .ok v' w' ∧ w'.ownsRow N0 24 4 v' (n + m) (xs ++ news) ∧ w.grownBy w' v.ownBlock := by
 obtain ⟨i0, hi, hz0, hz1, hz2⟩ := info_parts info_term07
 cases a with
 | none =>
   have hm0 := ha rfl
   subst hm0
   have hn0 : news = [] := List.eq_nil_of_length_eq_zero (by simpa using hn)
   subst hn0
   refine ⟨v, w, ?_, by simpa using h0, World.grownBy.refl _ _⟩
   rcases h0.2 with ⟨rfl, h00⟩ | ⟨g, cap, cur, rfl, _, hg, hcp, hmx, hsz, _⟩
   · simp [Builtin.append_, run_underlying Tryz.underlying22, sizeOf, typeInfo, hi, Builtin.lenOf, Builtin.firstCells]
   · simp [Builtin.append_, run_underlying Tryz.underlying22, sizeOf, typeInfo, hi, Builtin.lenOf, Builtin.firstCells, loadCells, storeCells]
     omega
 | some ad =>
   obtain ⟨v', w', hr, h2, h3, _, _⟩ := run_append_own_at (P := Tryz.prog) w N0 22 ty 24 i0 _ 4 56 Tryz.underlying22 hi hz0 hz1 hz2 rfl (by decide) v n xs h0 ad m c news hn (hc ad rfl) h1 (by unfold maxLen; omega) (by omega) hN
   exact ⟨v', w', hr, h2, h3⟩
def StepsKOr (P : Program) (ops : Array Oper) (m b1 : Nat) (kl : Nat → Nat → Bool) (Q : Exit → Act → World → Prop) (Φ : Facts) (a0 : Act) (w0 : World) : Nat → List Oper → Prop
 | _, [] => True
 | i, o :: r => StepKOr P ops m b1 kl Q Φ a0 w0 i o ∧ StepsKOr P ops m b1 kl Q Φ a0 w0 (i + 1) r
theorem stepsKOr_get {P : Program} {ops : Array Oper} {m b1 : Nat} {kl : Nat → Nat → Bool} {Q : Exit → Act → World → Prop} {Φ : Facts} {a0 : Act} {w0 : World} : ∀ {l : List Oper} {k : Nat}, StepsKOr P ops m b1 kl Q Φ a0 w0 k l → ∀ i o, l[i]? = some o → StepKOr P ops m b1 kl Q Φ a0 w0 (k + i) o
 | [], _, _, i, o, h => by simp at h
 | x :: r, k, hs, i, o, h => by
   cases i with
   | zero => simp at h; subst h; exact hs.1
   | succ i =>
     have := stepsKOr_get hs.2 i o (by simpa using h)
     rwa [show k + 1 + i = k + (i + 1) by omega] at this
theorem steps_kor {P : Program} {ops : Array Oper} {m b1 : Nat} {kl : Nat → Nat → Bool} {Q : Exit → Act → World → Prop} {Φ : Facts} {a0 : Act} {w0 : World} (H : StepsKOr P ops m b1 kl Q Φ a0 w0 0 ops.toList) : ∀ i o, ops[i]? = some o → StepKOr P ops m b1 kl Q Φ a0 w0 i o := by
 intro i o ho
 have := stepsKOr_get H i o (by simpa using ho)
 rwa [Nat.zero_add] at this
theorem kend {ops : Array Oper} {m b1 : Nat} {kl : Nat → Nat → Bool} {Φ : Facts} {a0 a : Act} {w0 w : World} (hJ : HeadInvK ops ops.size m b1 kl Φ a0 w0 (Array.replicate ops.size true) a w) (j d : Nat) (hk : ∀ k, kl j k = false) (h : dstAt ops j d = true) : Φ j (a.tmps.getD d undef) w := by
 obtain ⟨oj, h1, h2⟩ := dstAt_spec h
 have hj := (gL h1)
 exact hJ.facts j oj d h1 hj (by simp [Array.getD_eq_getD_getElem?, hj]) (fun k _ e => by rw [hk k] at e; cases e) h2
def FA3 (N0 lp : Nat) (xs : List Value) (us : List Tm) (ds : List Du) : Facts := fun i v w => match i with
 | 1 => ∃ g, v = .slice (some ⟨g, 0, none⟩) 0 0 ∧ w.ownsRow N0 24 4 v 0 []
 | 4 => w.ownsRow N0 24 4 v lp xs
 | 7 => RowV w v us
 | i => FU ds i v w
theorem FA3_grow {N0 lp : Nat} {xs : List Value} {us : List Tm} {ds : List Du} (i : Nat) (v : Value) (w w' : World) (h : FA3 N0 lp xs us ds i v w) (hb : Below w.heap.size w w') : FA3 N0 lp xs us ds i v w' := by
 unfold FA3 at *
 split at h
 · obtain ⟨g, e, h⟩ := h
   exact ⟨g, e, own_grown h hb⟩
 · exact own_grown h hb
 · exact h.grow hb
 · exact h
theorem FA3_keep {N0 lp : Nat} {xs : List Value} {us : List Tm} {ds : List Du} {i : Nat} {v : Value} {w w' : World} (h1 : i ≠ 1) (h4 : i ≠ 4) (h7 : i ≠ 7) (h : FA3 N0 lp xs us ds i v w) : FA3 N0 lp xs us ds i v w' := by
 unfold FA3 at *
 split at h
 · exact (h1 rfl).elim
 · exact (h4 rfl).elim
 · exact (h7 rfl).elim
 · exact h
theorem FA3_of {N0 lp : Nat} {xs : List Value} {us : List Tm} {ds : List Du} {i : Nat} {v : Value} {w : World} (hi : (i == 1 || i == 4 || i == 7) = false) (h : FU ds i v w) : FA3 N0 lp xs us ds i v w := by
 unfold FA3
 split
 · cases hi
 · cases hi
 · cases hi
 · exact h
theorem FA3_at {N0 lp : Nat} {xs : List Value} {us : List Tm} {ds : List Du} {ops : Array Oper} {o : Oper} {a : Act} {w : World} (hp : HP ops (FA3 N0 lp xs us ds) o a w) (j d : Nat) {u : Value} (h : fromOp ops o j d = true) (hj : (j == 1 || j == 4 || j == 7) = false) (hd : ds[j]? = some (.val u)) : a.tmps.getD d undef = u := by
 refine FU_at _ hd (w := w) ?_
 have := facts_at hp j d h
 unfold FA3 at this
 split at this
 · cases hj
 · cases hj
 · cases hj
 · exact this
theorem FA3_fu {N0 lp : Nat} {xs : List Value} {us : List Tm} {ds : List Du} {i : Nat} {v : Value} {w : World} (hi : (i == 1 || i == 4 || i == 7) = false) (h : FA3 N0 lp xs us ds i v w) : FU ds i v w := by
 unfold FA3 at h
 split at h
 · cases hi
 · cases hi
 · cases hi
 · exact h
def kl3 (j k : Nat) : Bool := (k == 7 && (j == 4 || j == 1)) || (k == 4 && j == 1)
def FA7 (N0 n m : Nat) (xs ys : List Value) (ds : List Du) : Facts := fun i v w => match i with
 | 0 => ∃ g, v = .slice (some ⟨g, 0, none⟩) 0 0 ∧ w.ownsRow N0 24 4 v 0 []
 | 5 => w.ownsRow N0 24 4 v n xs
 | 10 => w.ownsRow N0 24 4 v (n + m) (xs ++ ys)
 | i => FU ds i v w
theorem FA7_grow {N0 n m : Nat} {xs ys : List Value} {ds : List Du} (i : Nat) (v : Value) (w w' : World) (h : FA7 N0 n m xs ys ds i v w) (hb : Below w.heap.size w w') : FA7 N0 n m xs ys ds i v w' := by
 unfold FA7 at *
 split at h
 · obtain ⟨g, e, h⟩ := h
   exact ⟨g, e, own_grown h hb⟩
 · exact own_grown h hb
 · exact own_grown h hb
 · exact h
theorem FA7_keep {N0 n m : Nat} {xs ys : List Value} {ds : List Du} {i : Nat} {v : Value} {w w' : World} (h1 : i ≠ 0) (h4 : i ≠ 5) (h7 : i ≠ 10) (h : FA7 N0 n m xs ys ds i v w) : FA7 N0 n m xs ys ds i v w' := by
 unfold FA7 at *
 split at h
 · exact (h1 rfl).elim
 · exact (h4 rfl).elim
 · exact (h7 rfl).elim
 · exact h
theorem FA7_of {N0 n m : Nat} {xs ys : List Value} {ds : List Du} {i : Nat} {v : Value} {w : World} (hi : (i == 0 || i == 5 || i == 10) = false) (h : FU ds i v w) : FA7 N0 n m xs ys ds i v w := by
 unfold FA7
 split
 · cases hi
 · cases hi
 · cases hi
 · exact h
theorem FA7_at {N0 n m : Nat} {xs ys : List Value} {ds : List Du} {ops : Array Oper} {o : Oper} {a : Act} {w : World} (hp : HP ops (FA7 N0 n m xs ys ds) o a w) (j d : Nat) {u : Value} (h : fromOp ops o j d = true) (hj : (j == 0 || j == 5 || j == 10) = false) (hd : ds[j]? = some (.val u)) : a.tmps.getD d undef = u := by
 refine FU_at _ hd (w := w) ?_
 have := facts_at hp j d h
 unfold FA7 at this
 split at this
 · cases hj
 · cases hj
 · cases hj
 · exact this
def kl7 (j k : Nat) : Bool := (k == 10 && (j == 5 || j == 0)) || (k == 5 && j == 0)
end Go.Proofs.YtlmdhlckgbgfhaaGreatDoor
