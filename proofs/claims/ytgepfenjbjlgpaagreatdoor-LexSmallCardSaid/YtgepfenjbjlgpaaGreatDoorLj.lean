/- Package lex: Join. -/
import Derived.Test.YtgepfenjbjlgpaaGreatDoorLx
import Derived.Test.YtgepfenjbjlgpaaGreatDoorShelf
import Derived.Lib.Join
namespace Go.Proofs.YtgepfenjbjlgpaaGreatDoor
open Go.RowKit Go.Shelf
attribute [local go_sem] Oper.semAt_some

/-- A slice of tokens, held in a world below B. -/
def IsToks (B : Nat) (w : World) (v : Value) (l : List Tk) : Prop := ∃ p cap, v = .slice p l.length cap ∧ (l ≠ [] → ∃ b off, p = some ⟨b, off, none⟩ ∧ b < B ∧
  ∀ (i : Nat) (x : Tk), l[i]? = some x → w.cell? ⟨b, off + i * 3, none⟩ = some (.int .u8 x.k) ∧ w.cell? ⟨b, off + i * 3 + 1, none⟩ = some (.string x.t) ∧ w.cell? ⟨b, off + i * 3 + 2, none⟩ = some (.int .i64 x.a))
theorem IsToks.below {B : Nat} {w w' : World} {v : Value} {l : List Tk} (h : IsToks B w v l) (hb : Below B w w') : IsToks B w' v l := by
  obtain ⟨p, cap, hv, hr⟩ := h
  refine ⟨p, cap, hv, fun hne => ?_⟩
  obtain ⟨b, off, hp, hbB, hc⟩ := hr hne
  refine ⟨b, off, hp, hbB, fun i x hx => ?_⟩
  obtain ⟨h0, h1, h2⟩ := hc i x hx
  exact ⟨(hb.cell (p := ⟨b, off + i * 3, none⟩) hbB).trans h0, (hb.cell (p := ⟨b, off + i * 3 + 1, none⟩) hbB).trans h1, (hb.cell (p := ⟨b, off + i * 3 + 2, none⟩) hbB).trans h2⟩
theorem IsToks.mono {B B' : Nat} {w : World} {v : Value} {l : List Tk} (h : IsToks B w v l) (hb : B ≤ B') : IsToks B' w v l := by
  obtain ⟨p, cap, hv, hr⟩ := h
  refine ⟨p, cap, hv, fun hne => ?_⟩
  obtain ⟨b, off, hp, hbB, hc⟩ := hr hne
  exact ⟨b, off, hp, by omega, hc⟩

def AbB (A B : World) : Prop := Below A.heap.size A B
def CapV (Cv : Nat) (v : Value) (W : World) : Prop := W.heap[Cv]? = some (.cells #[v] 27 (0, 0))

theorem take_snocT {l : List Tk} {j : Nat} {x : Tk} (h : l[j]? = some x) : l.take (j + 1) = l.take j ++ [x] := by
  rw [List.take_add_one, h]; rfl

set_option maxRecDepth 100000 in
set_option maxHeartbeats 4000000 in
theorem values_toks (toks : List Tk) (v : Value) (Cv n n₀ : Nat) (w : World) (hn : n₀ ≤ w.heap.size) (hV : IsToks n₀ w v toks) (hC : CapV Cv v w) (hCn : Cv < w.heap.size) (hlen : toks.length ≤ 4294967296) :
    SeqOwn Fence.wide n Tryz.prog 58 #[.pointer (some ⟨Cv, 0, none⟩)] (fun x : Tk => #[x.agg]) AbB (Below n₀) (fun xs => xs = toks) (fun pre => pre <+: toks) toks.length w := by
  intro l J Jx W hW hJ hJx hY h0
  have hdd : ∀ k : Nat, (Fence.wide.depth.isSome = true → 1 ≤ k) := fun k h => by cases h
  have hVW : IsToks n₀ W v toks := hV.below (hW.mono hn)
  have hCW : CapV Cv v W := (hW.block Cv (by omega)).trans hC
  have c0 : W.cell? ⟨Cv, 0, none⟩ = some v := cells_at hCW 0 _ rfl
  have hnW : n₀ ≤ W.heap.size := Nat.le_trans hn hW.size
  obtain ⟨p, cap, rfl, hcells⟩ := hVW
  have HCE := Lib.hid hcells
  have H0 := Lib.hid h0
  have HJ := Lib.hid hJ
  have HY := Lib.hid hY
  clear hV hC hW hCW hcells h0 hJ hJx hY
  refine callsIn_of_wp Tryz.func58 rfl trivial ?_ rfl
  simp only [Tryz.ntmps58, List.size_toArray, List.length_cons, List.length_nil, Nat.reduceAdd, Nat.reduceSub, Array.replicate_succ, Array.replicate_zero, List.push_toArray, List.append_toArray, List.nil_append, List.cons_append]
  gi_wp2
  clear c0
  gi_loopw [7] (fun i wr => ∃ j : Nat, j ≤ toks.length ∧ i = .int .i64 j ∧ J (toks.take j) wr ∧ Below n₀ W wr ∧ n₀ ≤ wr.heap.size) (fun i _ => toks.length - (intOf i).toNat)
  case atStart => exact ⟨0, Nat.zero_le _, rfl, by simpa using H0.out, Below.refl _ _, hnW⟩
  case round =>
    obtain ⟨j, hj, rfl, hJj, hb, hz⟩ := hrel
    by_cases hlt : j < toks.length
    · obtain ⟨b, off, rfl, hbn, hc⟩ := HCE.out (by intro e; rw [e] at hlt; simp at hlt)
      obtain ⟨⟨k, t, a, er⟩, hx⟩ : ∃ x, toks[j]? = some x := ⟨toks[j], List.getElem?_eq_getElem hlt⟩
      obtain ⟨k0, k1, k2⟩ := hc j _ hx
      have g0 := (hb.cell (p := ⟨b, off + j * 3, none⟩) hbn).trans k0
      have g1 := (hb.cell (p := ⟨b, off + j * 3 + 1, none⟩) hbn).trans k1
      have g2 := (hb.cell (p := ⟨b, off + j * 3 + 2, none⟩) hbn).trans k2
      have hJ4 := HJ.out _ _ (wr.alloc (.cells #[.int .u8 k, .string t, .int .i64 a] 33)) hJj ((Below.refl _ _).alloc (Nat.le_refl _) _)
      have hle : (toks.take j).length < toks.length := by rw [List.length_take]; omega
      obtain ⟨fn, tmps, assign, body, hy, hR⟩ := HY.out (toks.take j) ⟨k, t, a, er⟩ _ hJ4 hle
      simp only [Tk.agg] at hy
      have HR := Lib.hid hR
      have HX := Lib.hid hx
      have HB := Lib.hid hb
      clear hR hJ4 hc k0 k1 k2 hx hle hJj hb
      gi_wp2
      refine ⟨hdd _, ?_⟩
      refine HR.out.mono ?_
      clear HR hy g0 g1 g2
      rintro e W5 (⟨rfl, hJ5, hK5⟩ | ⟨rfl, hx5⟩)
      · have HJ5 := Lib.hid hJ5
        have HK5 := Lib.hid hK5
        clear hJ5 hK5
        gi_wp2
        go_roundw
        case rel =>
          refine ⟨j + 1, by omega, by go_num, by rw [take_snocT HX.out]; exact HJ5.out, (HB.out.alloc hz _).trans HK5.out, ?_⟩
          have := HK5.out.size
          simp at this; omega
        case measure => simp [intOf]; omega
      · have HX5 := Lib.hid hx5
        clear hx5
        gi_wp2
        refine bodyPost_ret (v := .tuple #[]) (by simp [results, Tryz.results58, go_sem]) rfl ?_
        exact ⟨⟨_, rfl⟩, .inr ⟨_, by rw [← take_snocT HX.out]; exact List.take_prefix _ _, HX5.out⟩⟩
    · have HJJ := Lib.hid hJj
      clear hJj hb
      gi_wp2
      go_end0
      exact ⟨⟨_, rfl⟩, .inl ⟨toks, rfl, by have := HJJ.out; rwa [List.take_of_length_le (by omega)] at this⟩⟩

theorem values_in (F : Fence) (n : Nat) (hf : F.fn 27) (hro : F.round = none) (v : Value) (p : Option Addr) (len cap : Nat) (hv : v = .slice p len cap) (w : World) :
    CallsIn F n Tryz.prog 27 #[v] w fun e w' => e = .returned (.func (.func 58) #[] #[.pointer (some ⟨w.heap.size, 0, none⟩)]) ∧ w' = w.alloc (.cells #[v] 27) := by
  subst hv
  refine callsIn_of_wp Tryz.func27 rfl hf ?_ hro
  simp only [Tryz.ntmps27, List.size_toArray, List.length_cons, List.length_nil, Nat.reduceAdd, Nat.reduceSub, Array.replicate_succ, Array.replicate_zero, List.push_toArray, List.append_toArray, List.nil_append, List.cons_append]
  gi_wp2
  go_ret
  exact ⟨rfl, rfl⟩

theorem infoS : (Tryz.prog.info? 9).map (fun i => (i.zero, i.size, i.bytes)) = some (some (.string ⟨#[]⟩), 1, 16) := by kernel_rfl

def textsV (l : List Tk) : List Value := l.map fun x => .string x.t
def joinL (l : List Tk) : List UInt8 := Lib.join (l.map fun x => x.t.data.toList) [32]
def joinB (l : List Tk) : ByteArray := ⟨(joinL l).toArray⟩

/-- The invariant of Join's loop. -/
def JoinI (w : World) (N B0 : Nat) (pre : List Tk) (W : World) : Prop :=
  (∃ v, Boxed W N 25 v ∧ W.ownsRow B0 9 1 v pre.length (textsV pre) ∧ True) ∧ Below N w W ∧ B0 ≤ W.heap.size
theorem joinI_own (w : World) (N B0 B : Nat) (hN : N ≤ w.heap.size) (hB : N ≤ B) : OwnFrom B (JoinI w N B0) :=
  OwnFrom.and (Own.from (holdsRow_own B0 N 25 9 1 (fun pre : List Tk => pre.length) textsV fun _ _ => True) _)
    (OwnFrom.and (ownFrom_below hN hB) (fun _ _ _ _ hs hg _ => Nat.le_trans hs hg.size))
theorem joinI_bears (w : World) (N B0 : Nat) (hN : N < B0) : Bears AbB (JoinI w N B0) := by
  rintro pre X Y ⟨⟨v, h1, h2, h3⟩, h6, h7⟩ hb
  have hg : X.grownBy Y none := ⟨hb.os, hb.tape, hb.output, hb.size, fun k hk _ => hb.block k hk⟩
  refine ⟨⟨v, h1.kept hg (by simp), h2.kept hg ?_, h3⟩, h6.trans (hb.mono (by omega)), Nat.le_trans h7 hb.size⟩
  rcases h2.2 with ⟨rfl, _⟩ | ⟨g, cap, cur, rfl, hgg, _⟩
  · exact .inl rfl
  · exact .inr (by simp [Value.ownBlock])

set_option maxRecDepth 100000 in
set_option maxHeartbeats 4000000 in
theorem join_in (toks : List Tk) (v : Value) (w : World) (hV : IsToks w.heap.size w v toks) (hlen : toks.length ≤ 4294967296) (hj : (joinL toks).length ≤ 140737488355328) :
    CallsIn Fence.wide 9 Tryz.prog 14 #[v] w fun e w' => e = .returned (.string (joinB toks)) ∧ Below w.heap.size w w' := by
  have hdd : ∀ k : Nat, (Fence.wide.depth.isSome = true → 1 ≤ k) := fun k h => by cases h
  have hV0 := hV
  obtain ⟨p, cap, rfl, hcells⟩ := hV
  have HV := Lib.hid hV0
  have HJL := Lib.hid hj
  clear hV0 hcells hj
  refine callsIn_of_wp_marks Tryz.func14 rfl trivial ?_ rfl
  simp only [Tryz.ntmps14, List.size_toArray, List.length_cons, List.length_nil, Nat.reduceAdd, Nat.reduceSub, Array.replicate_succ, Array.replicate_zero, List.push_toArray, List.append_toArray, List.nil_append, List.cons_append]
  gi_wp2_with (refine ⟨trivial, ?_⟩; gi_at_call 27; refine (values_in Fence.wide _ trivial rfl _ _ _ _ rfl _).mono ?_; rintro e w' ⟨rfl, rfl⟩)
  obtain ⟨W0, hW0⟩ : ∃ W0, (w.alloc (.cells #[.slice none 0 0] 25)).alloc (.cells #[.slice p toks.length cap] 27) = W0 := ⟨_, rfl⟩
  have hsz : W0.heap.size = w.heap.size + 2 := by rw [← hW0]; simp
  have hb0 : Below w.heap.size w W0 := by rw [← hW0]; exact ((Below.refl _ w).alloc (Nat.le_refl _) _).alloc (by simp) _
  have b0 : Boxed W0 w.heap.size 25 (.slice none 0 0) := by rw [← hW0]; exact (Boxed.new w _ _).alloc _
  have hcv : CapV (w.heap.size + 1) (.slice p toks.length cap) W0 := by
    rw [← hW0]; have := World.alloc_heap_new (w.alloc (.cells #[.slice none 0 0] 25)) (.cells #[.slice p toks.length cap] 27)
    rw [World.size_alloc] at this; exact this
  rw [hW0]
  clear hW0
  refine range_own rfl (by omega) (gf := 58) (lb := #[.pointer (some ⟨w.heap.size + 1, 0, none⟩)]) rfl trivial (enters_of Tryz.func58 (by kernel_rfl) rfl)
    (values_toks toks _ (w.heap.size + 1) _ w.heap.size W0 (by omega) (HV.out.below hb0) hcv (by omega) hlen)
    (fun A B l o hab hl ho => (hab.block l (Array.getElem?_eq_some_iff.1 hl).1).trans hl)
    Below.trans
    (fun W l o o' hl h hc => (Below.refl _ W).grown (grownBy_putObj' W l o') (by have := (Array.getElem?_eq_some_iff.1 h).1; omega) (fun k e => by cases e; omega))
    (fun _ => rfl)
    (JoinI w w.heap.size W0.heap.size) (fun _ _ _ => False) (joinI_own _ _ _ _ (Nat.le_refl _) (by omega)) (fun _ _ _ _ _ h _ _ => h) (joinI_bears _ _ _ (by omega)) (fun _ _ _ _ h _ => h)
    ⟨⟨_, b0, ⟨rfl, .inl ⟨rfl, rfl⟩⟩, trivial⟩, hb0, Nat.le_refl _⟩
    (fun x a' W => ∃ Bx, W0.heap.size ≤ Bx ∧ TokIn Bx x.k x.t x.a W ∧
      a' = { tmps := #[Value.slice p toks.length cap, undef, Value.string ⟨#[]⟩, Value.pointer (some { block := w.heap.size, off := 0 }), Value.pointer (some { block := Bx, off := 0 }), Value.slice p toks.length cap,
          Value.func (Fn.func 58) #[] #[Value.pointer (some { block := w.heap.size + 1, off := 0 })], x.agg, undef, undef, undef, undef, undef, undef, undef], defers := [] })
    (fun x a' st X Y row hs hg hr => by
      obtain ⟨Bx, h1, h2, h3⟩ := hs
      refine ⟨Bx, h1, (hg.block Bx h2.lt (fun e => ?_)).trans h2, h3⟩
      obtain ⟨_, o, ho, hc⟩ := hr Bx e.symm
      rw [show X.heap[Bx]? = _ from h2] at ho; cases ho; cases hc) ?assign ?body ?done ?stop
  case assign =>
    rintro l pre ⟨k, t, a, er⟩ W K hi hK
    have hB := hi.2.2
    have hK' := hK _ _ ((KeepsOthers.alloc W (.cells #[.int .u8 k, .string t, .int .i64 a] 33)).from _) ((Below.refl _ W).alloc (by omega) _) (joinI_own w _ _ W0.heap.size (Nat.le_refl _) (by omega) |>.alloc _ hi) ⟨W.heap.size, hB, World.alloc_heap_new _ _, rfl⟩
    clear hK
    have HK := Lib.hid hK'; clear hK' hi hB
    simp only [Tk.agg]
    gi_wp2
    exact HK.out
  case body =>
    rintro l pre ⟨k, t, a, er⟩ a' W hl hrec ⟨⟨v, hv, hrow, _⟩, hB, hz⟩ ⟨Bx, hBx, htok, rfl⟩ hlt
    have t1 : W.cell? ⟨Bx, 1, none⟩ = some (.string t) := cells_at htok 1 _ rfl
    have vc := hv.cell
    have g0 := hv.frozen
    have HROW := Lib.hid hrow
    have HBB := Lib.hid hB
    clear htok hrow hB
    obtain ⟨i0, hi, hz0, hz1, hz2⟩ := info_parts infoS
    have hwz : W0.heap.size ≤ (W.alloc (.cells #[.string t] 9)).heap.size := by simp; omega
    gi_wp2_with (gi_at_builtin; refine wpListIn_append_own _ rfl _ _ 25 rfl W0.heap.size 9 i0 _ 1 16 Tryz.underlying25 hi hz0 hz1 hz2 rfl (by decide) _ _ _ rfl (HROW.out.alloc _) ⟨W.heap.size, 0, none⟩ 1 1 [.string t] rfl rfl ?c1 ?c2 ?c3 ?c4 hwz ?_)
    case c1 =>
      intro jj u hu
      rcases jj with _ | jj
      · cases hu; exact cells_at (World.alloc_heap_new W _) 0 _ rfl
      · simp at hu
    case c2 => simp [Value.oneCell']
    case c3 => unfold maxLen; omega
    case c4 => omega
    intro v' w1 hown' hgrow _
    have hv1 : Boxed w1 w.heap.size 25 v := (hv.alloc _).kept hgrow (hv.not_row (by decide) HROW.out)
    obtain ⟨gg, cap', rfl⟩ := ownsRow_succ hown'
    have hc1 := hv1.cell
    have hf1 := hv1.frozen
    have HO := Lib.hid hown'
    have HG := Lib.hid hgrow
    clear hown' hgrow vc g0
    gi_wp2
    have hgw : W.grownBy w1 v.ownBlock := ⟨HG.out.os, HG.out.tape, HG.out.output, Nat.le_trans (by simp) HG.out.size, fun kk hk hr => (HG.out.block kk (by simp; omega) hr).trans (Below.heap_alloc _ _ _ hk)⟩
    have hg2 := grown_set w1 w.heap.size 0 (.slice (some ⟨gg, 0, none⟩) (pre.length + 1) cap')
    have hbw : Below w.heap.size W w1 := (Below.refl _ W).grown hgw (by omega) (fun kk e => by
          rcases HROW.out.2 with ⟨rfl, _⟩ | ⟨g, cap, cur, rfl, hg0, _⟩
          · simp [Value.ownBlock] at e
          · have : g = kk := by simpa [Value.ownBlock] using e
            omega)
    refine ⟨?_, hbw.setCell (p := ⟨w.heap.size, 0, none⟩) (Nat.le_refl _) _, ⟨_, hv1.set _, ?_, trivial⟩, ?_, ?_⟩
    · exact ((KeepsOthers.alloc W _).trans (KeepsOthers.of_grownBy HG.out fun j o ej hj => by
          rcases (HROW.out.alloc _).2 with ⟨rfl, _⟩ | ⟨g, cap, cur, rfl, _, hgb, _⟩
          · simp [Value.ownBlock] at ej
          · obtain rfl : g = j := by simpa [Value.ownBlock] using ej
            rw [hgb] at hj; cases hj; rfl)).trans (KeepsOthers.setCell _ _ _) |>.from _
    · have e1 : textsV (pre ++ [⟨k, t, a, er⟩]) = textsV pre ++ [.string t] := by unfold textsV; rw [List.map_append]; rfl
      rw [e1, List.length_append]
      have hko := HO.out.kept hg2 (.inr (hv1.not_row (by decide) HO.out).symm)
      rw [hsz]; exact hko
    · exact (HBB.out.trans hbw).setCell (p := ⟨w.heap.size, 0, none⟩) (Nat.le_refl _) _
    · have := hgw.size; have := hg2.size; omega
  case done =>
    rintro D xs W hD rfl ⟨⟨v, hv, hrow, _⟩, hB, hz⟩ hK
    have vc := hv.cell
    have HJn : Hid (Calls Tryz.prog 28 #[v, .string ⟨#[32]⟩] W fun e w' => e = .returned (.string (joinB xs)) ∧ Below W.heap.size W w') := Lib.hid (by
      rcases hrow.2 with ⟨rfl, h0⟩ | ⟨g, cap', cur, rfl, hg0, hgb, hle, hcl, hcz, htk⟩
      · have hx : xs = [] := List.eq_nil_of_length_eq_zero h0
        subst hx
        exact (Tryz.strings_Join_none none 0 ⟨#[32]⟩ W).mono fun e w' ⟨h1, h2⟩ => ⟨by rw [h1]; rfl, by rw [h2]; exact Below.refl _ _⟩
      · have hc : ∀ (j : Nat) (x : ByteArray), (xs.map (·.t))[j]? = some x → W.cell? ⟨g, 0 + j, none⟩ = some (.string x) := by
          intro j x hx
          rw [Nat.zero_add]
          have h1 : (textsV xs)[j]? = some (.string x) := by
            unfold textsV; rw [List.getElem?_map] at hx ⊢
            cases hxj : xs[j]? with
            | none => rw [hxj] at hx; cases hx
            | some y => rw [hxj] at hx; simp at hx ⊢; exact hx
          rw [← htk] at h1
          rw [List.getElem?_take] at h1
          split at h1
          · exact cells_at hgb j _ (by rw [← Array.getElem?_toList]; exact h1)
          · cases h1
        have h2 := Tryz.strings_Join g 0 cap' (xs.map (·.t)) ⟨#[32]⟩ W hc (Array.getElem?_eq_some_iff.1 hgb).1 (by rw [List.length_map]; omega) (by rw [List.length_map]; exact hle) (by rw [List.map_map]; exact HJL.out)
        rw [List.length_map, List.map_map] at h2
        exact h2)
    have hvs : ∃ aa nn cc, v = .slice aa nn cc := by
      rcases hrow.2 with ⟨h, _⟩ | ⟨g, cap, cur, h, _⟩
      · exact ⟨_, _, _, h⟩
      · exact ⟨_, _, _, h⟩
    obtain ⟨aa, nn, cc, rfl⟩ := hvs
    clear hrow
    gi_wp2_with (refine ⟨trivial, ?_⟩; gi_at_call 28; refine (callsIn_wide.2 HJn.out).mono ?_; rintro e W2 ⟨rfl, hb2⟩)
    have hDl : D < W.heap.size := (Array.getElem?_eq_some_iff.1 hK).1
    have hK' := (hb2.block D hDl).trans hK
    refine ⟨by simp, .inl ⟨_, _, rfl, run_takeDeferred hK', ?_⟩⟩
    refine ⟨_, results_tmp rfl _ _ _, ?_⟩
    exact ⟨rfl, (hB.trans (hb2.mono (by omega))).trans (belowK_b (w := w) (Nat.le_refl _) W2 D _ _ (by omega) hK' rfl rfl)⟩
  case stop =>
    rintro D c pre W _ _ h _
    exact h.elim
end Go.Proofs.YtgepfenjbjlgpaaGreatDoor
