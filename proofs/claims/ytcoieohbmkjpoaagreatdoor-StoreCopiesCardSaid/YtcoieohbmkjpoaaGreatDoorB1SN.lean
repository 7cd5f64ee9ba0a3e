/- StoreCopies: its walk. -/
import Derived.Test.YtcoieohbmkjpoaaGreatDoorB1SM
import Derived.IntWalk
namespace Go.Proofs.YtcoieohbmkjpoaaGreatDoor
open Go.RowKit Go.Shelf Go.Maps
attribute [local go_sem] Oper.semAt_some

theorem row_lat {w w' : World} {k : Nat} {o : Obj} (hb : Below w.heap.size w w') (h : w.heap[k]? = some o) : w'.heap[k]? = some o := (hb.block _ (Array.getElem?_eq_some_iff.1 h).1).trans h
theorem cell_of {w w' : World} {p : Addr} {v : Value} (hb : Below w.heap.size w w') (h : w.cell? p = some v) : w'.cell? p = some v := (hb.cell (block_lt_of_cell h)).trans h
theorem RdL.two {w : World} {a : Option Addr} {c : Nat} {L : List Ato} (h : RdL w (.slice a L.length c) L) {j k : Nat} (hj : j < L.length) (hk : k < L.length) : ∃ g off v0 v1 u0 u1, a = some ⟨g, off, none⟩ ∧ w.cell? ⟨g, off + j * 2, none⟩ = some v0 ∧ w.cell? ⟨g, off + j * 2 + 1, none⟩ = some v1 ∧ AtS (fun b => b < w.heap.size) w v0 v1 L[j] ∧
    w.cell? ⟨g, off + k * 2, none⟩ = some u0 ∧ w.cell? ⟨g, off + k * 2 + 1, none⟩ = some u1 ∧ AtS (fun b => b < w.heap.size) w u0 u1 L[k] := by
  obtain ⟨a', c', e, _, hr⟩ := h
  simp only [Value.slice.injEq] at e
  obtain ⟨rfl, _, rfl⟩ := e
  obtain ⟨g, off, v0, v1, h0, h1, h2, h3⟩ := hr j hj
  obtain ⟨g', off', u0, u1, k0, k1, k2, k3⟩ := hr k hk
  rw [h0] at k0
  simp only [Option.some.injEq, Addr.mk.injEq, and_true] at k0
  obtain ⟨rfl, rfl⟩ := k0
  exact ⟨g, off, v0, v1, u0, u1, h0, h1, h2, h3, k1, k2, k3⟩
theorem add_s (B S : Nat) (lab : Lab) (A : List Ato) (x : Ato) (v0 v1 : Value) (w0 w : World) (hI : StI w B lab S A) (hB : w0.heap.size = B) (hb : Below B w0 w) (hx : AtS (fun b => b < w0.heap.size) w0 v0 v1 x) (hc : cntA x ≤ 1000000) :
    Calls Tryz.prog 15 #[.pointer (some ⟨S, 0, none⟩), .agg #[v0, v1]] w fun e w' => e = .returned (.tuple #[.bool (addR A x).1, .int .i64 (addR A x).2]) ∧ ∃ lab', StI w' B lab' S (addL A x) ∧ (∀ b, b < w.heap.size → lab' b = lab b) ∧ Stp lab Own w w' ∧ Below B w w' := by
  subst hB
  exact add_low w0.heap.size S lab A x v0 v1 w hI hb.size (hx.same (fun _ h => h) (fun b h => hb.block b h)) hc
theorem add_b (B S : Nat) (lab : Lab) (A : List Ato) (x : Ato) (v0 v1 : Value) (r1 : Bool) (r2 : Int) (A' : List Ato) (w0 w : World) (hI : StI w B lab S A) (hB : w0.heap.size = B) (hb : Below B w0 w) (hx : AtS (fun b => b < w0.heap.size) w0 v0 v1 x) (hc : cntA x ≤ 1000000) (hr : addR A x = (r1, r2)) (hl : addL A x = A') :
    Calls Tryz.prog 15 #[.pointer (some ⟨S, 0, none⟩), .agg #[v0, v1]] w fun e w' => e = .returned (.tuple #[.bool r1, .int .i64 r2]) ∧ ∃ lab', StI w' B lab' S A' ∧ Below B w w' := by
  have h := add_s B S lab A x v0 v1 w0 w hI hB hb hx hc
  rw [hr, hl] at h
  exact h.mono fun e w' ⟨h1, lab', h2, _, _, h3⟩ => ⟨h1, lab', h2, h3⟩
set_option maxRecDepth 100000 in
set_option maxHeartbeats 16000000 in
theorem copies_any (L : List Ato) (lv : Value) (y : Ato) (a0 a1 : Value) (w : World) (hT : Tab10 w) (hL : RdL w lv L) (hy : AtS (fun b => b < w.heap.size) w a0 a1 y) :
    Calls Tryz.prog 6 #[lv, .agg #[a0, a1]] w fun e w' => e = .returned (.bool true) ∧ Below w.heap.size w w' := by
  obtain ⟨p, us⟩ := y
  obtain ⟨ax, cx, rfl, rfl⟩ := hy.shape
  obtain ⟨al, cl, rfl, hl0, hrd0⟩ := hL
  have hL : RdL w (.slice al L.length cl) L := ⟨al, cl, rfl, hl0, hrd0⟩
  change Calls Tryz.prog 6 #[.slice al L.length cl, .agg #[.string p, .slice ax us.length cx]] w _
  obtain ⟨W, hW⟩ : ∃ W, w.alloc (.cells #[.string p, .slice ax us.length cx] 24) = W := ⟨_, rfl⟩
  have hb : Below w.heap.size w W := by rw [← hW]; exact (Below.refl _ _).alloc (Nat.le_refl _) _
  have k1 : W.heap[w.heap.size]? = some (.cells #[.string p, .slice ax us.length cx] 24 (0, 0)) := by rw [← hW]; exact World.alloc_heap_new _ _
  have HX := Lib.hid (hy.below hb)
  have HL := Lib.hid (hL.below hb)
  have HT := Lib.hid (hT.below hb)
  have HB := Lib.hid hb
  obtain ⟨m, hm⟩ : ∃ m, w.heap.size = m := ⟨_, rfl⟩
  have hll : L.length ≤ 9223372036854775807 := by unfold maxLen at hl0; exact hl0
  have HK := Lib.hid (hm ▸ k1)
  clear hy hL hT hb k1 hl0 hrd0
  go_enter Tryz.func6, Tryz.ntmps6
  refine wp_seq_k fun K0 hK0 => ?_
  have HK0 := Lib.hid hK0
  clear hK0
  go_wp2_with fail
  try rw [hW]
  try simp only [hm]
  clear hW
  refine HK0.out _ _ ?_
  clear HK0
  have HAW := Lib.hid (awake11_any W HT.out)
  go_wp2_with (go_at_call 9; refine HAW.out.mono ?_)
  clear HAW
  rintro e w1 ⟨rfl, hb1⟩
  have HB1 := Lib.hid hb1
  have HG1 := Lib.hid (great_any L _ w1 (HL.out.below hb1))
  clear hb1
  go_wp2_with (go_at_call 8; refine HG1.out.mono ?_)
  clear HG1
  rintro e w2 ⟨b, rfl, hbf, hb2⟩
  have HB2 := Lib.hid (below_then HB1.out hb2)
  have HBF := Lib.hid hbf
  clear hbf hb2 HB1
  cases b with
  | true =>
    go_wp2
    go_ret
    exact ⟨rfl, below_then HB.out HB2.out⟩
  | false =>
  have hgl := HBF.out (by first | rfl | trivial)
  have HC := Lib.hid hgl.2
  have HLL := Lib.hid hgl.1
  have d10 := cells_at (row_lat HB2.out HK.out) 0 _ rfl
  have d11 := cells_at (row_lat HB2.out HK.out) 1 _ rfl
  obtain ⟨W3, hW3⟩ : ∃ X, w2.alloc (.cells #[.string p, .slice ax us.length cx] 24) = X := ⟨_, rfl⟩
  have hb3 : Below w2.heap.size w2 W3 := by rw [← hW3]; exact (Below.refl _ _).alloc (Nat.le_refl _) _
  have hr3 : W3.heap[w2.heap.size]? = some (.cells #[.string p, .slice ax us.length cx] 24 (0, 0)) := by rw [← hW3]; exact World.alloc_heap_new _ _
  have hb03 := below_then HB2.out hb3
  have hlst : LstR W3 (.slice (some ⟨w2.heap.size, 0, none⟩) 1 1) [(p, us)] := ⟨_, ⟨rfl, Or.inr ⟨w2.heap.size, 1, _, rfl, Nat.zero_le _, hr3, Nat.le_refl 1, by unfold maxLen; omega, rfl, rfl⟩⟩, ⟨_, _, _, rfl, HX.out.below hb03, rfl⟩⟩
  have HG := Lib.hid (great_any [(p, us)] _ W3 hlst.rd)
  have HB3 := Lib.hid hb03
  clear hb3 hr3 hb03 hlst HBF hgl
  go_wp2_with (go_at_call 8; refine HG.out.mono ?_)
  clear HG hW3 d10 d11
  rintro e w4 ⟨b, rfl, hbf, hb4⟩
  have HB4 := Lib.hid (below_then HB3.out hb4)
  have HBF := Lib.hid hbf
  clear hbf hb4 HB3 HB2
  cases b with
  | true =>
    go_wp2
    go_ret
    exact ⟨rfl, below_then HB.out HB4.out⟩
  | false =>
  have hgl := HBF.out (by first | rfl | trivial)
  have HCX := Lib.hid (show cntA (p, us) ≤ 1000000 by have := hgl.2 (p, us) (by simp); omega)
  have HL4 := Lib.hid (HL.out.below HB4.out)
  have HX4 := Lib.hid (HX.out.below HB4.out)
  have HK4 := Lib.hid (row_lat HB4.out HK.out)
  have HT4 := Lib.hid (HT.out.below HB4.out)
  have HBW := Lib.hid (below_then HB.out HB4.out)
  clear hgl HBF HL HX HK HT HB HB4
  have HN := Lib.hid (new_any w4 HT4.out)
  go_wp2_with (go_at_call 14; refine HN.out.mono ?_)
  clear HN
  rintro e w5 ⟨S, lab1, rfl, hI5, hb5⟩
  have HI5 := Lib.hid hI5
  have HB5 := Lib.hid hb5
  have HN := Lib.hid (new_any w5 (HT4.out.below hb5))
  clear hI5 hb5
  go_wp2_with (go_at_call 14; refine HN.out.mono ?_)
  clear HN
  rintro e w6 ⟨U, lab2, rfl, hI6, hb6⟩
  obtain ⟨l1, l2, h2⟩ := TwoS.start HB5.out.size HI5.out hI6 hb6
  have H2 := Lib.hid h2
  have HB6 := Lib.hid (below_then HB5.out hb6)
  clear hI6 hb6 h2 HI5 HB5
  go_wp2_with fail
  go_loopw [7] (fun i wr => ∃ (j : Nat) (l1 l2 : Lab) (A M : List Ato), j ≤ L.length ∧ i = .int .i64 j ∧ TwoS wr w4.heap.size l1 l2 S U A M ∧ Hid (CopJ L A M j) ∧ Below w4.heap.size w4 wr) (fun i _ => L.length - (intOf i).toNat)
  case atStart => exact ⟨0, l1, l2, [], [], by omega, by go_num, H2.out, Lib.hid (CopJ.start L), HB6.out⟩
  case round =>
    obtain ⟨j, k1, k2, A, M, hj, rfl, hI, hA, hBr⟩ := hrel
    have HBR := Lib.hid hBr
    have H2 := Lib.hid hI
    clear hBr hI HB6
    by_cases hlt : j < L.length
    · obtain ⟨k, hk⟩ : ∃ k, L.length - 1 - j = k := ⟨_, rfl⟩
      have hkl : k < L.length := by omega
      have HCJ := Lib.hid (hA.out.next hlt (by have := HLL.out; omega))
      obtain ⟨g, off, v0, v1, u0, u1, rfl, g0, g1, hxx, k0, k1', hyy⟩ := HL4.out.two hlt hkl
      have HM1 := Lib.hid (show cntA L[j] ≤ 1000000 by have := HC.out _ (List.getElem_mem hlt); omega)
      have HM2 := Lib.hid (show cntA L[k] ≤ 1000000 by have := HC.out _ (List.getElem_mem hkl); omega)
      have hsub : (L[L.length - 1 - j]'(by omega)) = L[k] := by congr 1
      rw [hsub] at HCJ
      obtain ⟨X, hX⟩ : ∃ X, L[j] = X := ⟨_, rfl⟩
      obtain ⟨Y, hY⟩ : ∃ Y, L[k] = Y := ⟨_, rfl⟩
      rw [hX] at hxx HM1 HCJ
      rw [hY] at hyy HM2 HCJ
      have HX1 := Lib.hid hxx
      have HY1 := Lib.hid hyy
      have K0 := Lib.hid k0
      have K1 := Lib.hid k1'
      have HADD := Lib.hid (add_s w4.heap.size S k1 A X v0 v1 w4 wr H2.out.s rfl HBR.out hxx HM1.out)
      have x0 := cell_of HBR.out g0
      have x1 := cell_of HBR.out g1
      have i1 : (0 : Int) ≤ (j : Int) := by omega
      have i2 : (j : Int) < (L.length : Int) := by omega
      have HKN := Lib.hid (show IntKind.i64.wrap ((L.length : Int) - 1) = (L.length : Int) - 1 ∧ IntKind.i64.wrap ((L.length : Int) - 1 - (j : Int)) = (k : Int) ∧ (0 : Int) ≤ (k : Int) ∧ (k : Int) < (L.length : Int) by
        refine ⟨?_, ?_, ?_, ?_⟩ <;> first | omega | (rw [IntKind.wrap_i64]; omega))
      clear hxx hyy g0 g1 k0 k1' hX hY hsub hA hk
      go_wp2_with (go_at_call 15; refine HADD.out.mono ?_)
      clear HADD x0 x1 i1
      rintro e w7 ⟨rfl, k1'', hI7, hl7, hs7, hb7⟩
      obtain ⟨k2'', h7⟩ := H2.out.stepS hI7 hl7 hs7
      have H7 := Lib.hid h7
      have HB7 := Lib.hid (HBR.out.trans hb7)
      have HADD := Lib.hid (add_s w4.heap.size U k2'' M Y u0 u1 w4 w7 h7.t rfl (HBR.out.trans hb7) HY1.out HM2.out)
      clear hI7 hl7 hs7 hb7 h7 H2
      have x0 := cell_of HB7.out K0.out
      have x1 := cell_of HB7.out K1.out
      have e1 := HKN.out.1
      have e2 := HKN.out.2.1
      have e3 := HKN.out.2.2.1
      have e4 := HKN.out.2.2.2
      go_wp2_with (go_at_call 15; refine HADD.out.mono ?_)
      clear HADD x0 x1 e1 e2 e3 e4
      rintro e w8 ⟨rfl, k3, hI8, hl8, hs8, hb8⟩
      obtain ⟨k4, h8⟩ := H7.out.swap.stepS hI8 hl8 hs8
      have H8 := Lib.hid h8.swap
      have HB8 := Lib.hid (HB7.out.trans hb8)
      clear hI8 hl8 hs8 hb8 h8 H7
      have i1 : (0 : Int) ≤ (j : Int) := by omega
      go_wp2
      go_roundw
      case rel => exact ⟨j + 1, k4, k3, _, _, by omega, by go_num, H8.out, HCJ, HB8.out⟩
      case measure => simp [intOf]; omega
    · obtain rfl : j = L.length := by omega
      have HJ := Lib.hid hA.out.done
      have HAL := Lib.hid (show A.length ≤ 150 by have := hA.out.2.2.1; have := HLL.out; omega)
      have hal : A.length ≤ 9223372036854775807 := by have := HAL.out; omega
      have HCP := Lib.hid (copy_any w4.heap.size S k1 A wr H2.out.s)
      clear HL4 HC HLL hlt hj hA HT4
      go_wp2_with (go_at_call 26; refine HCP.out.mono ?_)
      clear HCP
      rintro e w7 ⟨V, k3, rfl, hI7, hb7⟩
      have HV := Lib.hid hI7
      have HS := Lib.hid (H2.out.s.below hb7)
      have HU := Lib.hid (H2.out.t.below hb7)
      have HB7 := Lib.hid hb7
      have HXV := Lib.hid (HX4.out.same (S' := fun b => b < wr.heap.size) (fun b h => Nat.lt_of_lt_of_le h HBR.out.size) (fun b h => HBR.out.block b h))
      have HKV := Lib.hid (show wr.heap[m]? = some (.cells #[.string p, .slice ax us.length cx] 24 (0, 0)) from row_lat HBR.out HK4.out)
      have HBV := Lib.hid (below_then HBW.out HBR.out)
      clear hI7 hb7 HBR HX4 HK4 HBW
      obtain ⟨wv, hwv⟩ : ∃ X, X = wr := ⟨_, rfl⟩
      subst hwv
      have HE := Lib.hid (equal_any w4.heap.size wv.heap.size S V k1 k3 A A true w7 HS.out HV.out ⟨fun _ => ⟨rfl, fun _ h => h⟩, fun _ => rfl⟩)
      go_wp2_with (go_at_call 27; refine HE.out.mono ?_)
      clear HE
      rintro e w8 ⟨rfl, hb8⟩
      have HB8 := Lib.hid hb8
      have HE := Lib.hid (equal_any wv.heap.size w4.heap.size V S k3 k1 A A true w8 (HV.out.below hb8) (HS.out.below hb8) ⟨fun _ => ⟨rfl, fun _ h => h⟩, fun _ => rfl⟩)
      clear hb8
      go_wp2_with (go_at_call 27; refine HE.out.mono ?_)
      clear HE
      rintro e w9 ⟨rfl, hb9⟩
      have HB9 := Lib.hid (below_then HB8.out hb9)
      have HE := Lib.hid (equal_any w4.heap.size w4.heap.size S U k1 k2 A M true w9 (HS.out.below HB9.out) (HU.out.below HB9.out) ⟨fun _ => ⟨HJ.out.1, HJ.out.2.1⟩, fun _ => rfl⟩)
      clear hb9 HB8
      go_wp2_with (go_at_call 27; refine HE.out.mono ?_)
      clear HE
      rintro e w10 ⟨rfl, hb10⟩
      have HB10 := Lib.hid (below_then HB9.out hb10)
      clear hb10 HB9
      obtain ⟨la, lc, m1, m2, m3, hrow, _⟩ := (HV.out.below HB10.out).row
      have HLN := Lib.hid (len_row V la A.length lc (some m1) (some m2) (some m3) w10 hrow)
      clear hrow
      go_wp2_with (go_at_call 18; refine HLN.out.mono ?_)
      clear HLN
      rintro e w11 ⟨rfl, hb11⟩
      have HB11 := Lib.hid (below_then HB10.out hb11)
      clear hb11 HB10
      obtain ⟨la, lc, m1, m2, m3, hrow, _⟩ := (HS.out.below HB11.out).row
      have HLN := Lib.hid (len_row S la A.length lc (some m1) (some m2) (some m3) w11 hrow)
      clear hrow
      go_wp2_with (go_at_call 18; refine HLN.out.mono ?_)
      clear HLN
      rintro e w12 ⟨rfl, hb12⟩
      have HB12 := Lib.hid (below_then HB11.out hb12)
      clear hb12 HB11
      go_wp2_with fail
      go_loopw [9] (fun i wr => ∃ (j : Nat), j ≤ A.length ∧ i = .int .i64 j ∧ Below w12.heap.size w12 wr) (fun i _ => A.length - (intOf i).toNat)
      case atStart => exact ⟨0, by omega, by go_num, Below.refl _ _⟩
      case round =>
        obtain ⟨j, hj, rfl, hBr⟩ := hrel
        have HBK := Lib.hid hBr
        have HBR := Lib.hid (below_then HB12.out hBr)
        obtain ⟨la, lc, m1, m2, m3, hrow, _⟩ := (HS.out.below HBR.out).row
        have HLN := Lib.hid (len_row S la A.length lc (some m1) (some m2) (some m3) wr hrow)
        clear hrow hBr
        by_cases hlt : j < A.length
        · have i1 : (0 : Int) ≤ (j : Int) := by omega
          have i2 : (j : Int) < (A.length : Int) := by omega
          go_wp2_with (go_at_call 18; refine HLN.out.mono ?_)
          clear HLN
          rintro e w13 ⟨rfl, hb13⟩
          have HB13 := Lib.hid (below_then HBK.out hb13)
          have hq1 := at_any w4.heap.size S k1 A j w13 (HS.out.below (below_then HBR.out hb13)) hlt
          obtain ⟨X, hX⟩ : ∃ X, A[j] = X := ⟨_, rfl⟩
          rw [hX] at hq1
          obtain ⟨q, vs⟩ := X
          simp only at hq1
          have HX := Lib.hid hX
          have HAT := Lib.hid hq1
          clear hq1 hb13 hX HBK
          go_wp2_with (go_at_call 19; refine HAT.out.mono ?_)
          clear HAT
          rintro e w14 ⟨a8, c8, rfl, hb14, hat14⟩
          obtain ⟨W14, hW14⟩ : ∃ X, w14.alloc (.cells #[.string q, .slice a8 vs.length c8] 24) = X := ⟨_, rfl⟩
          have hbn : Below w14.heap.size w14 W14 := by rw [← hW14]; exact (Below.refl _ _).alloc (Nat.le_refl _) _
          have h14 : W14.heap[w14.heap.size]? = some (.cells #[.string q, .slice a8 vs.length c8] 24 (0, 0)) := by rw [← hW14]; exact World.alloc_heap_new _ _
          have HR8 := Lib.hid h14
          have HB14 := Lib.hid (below_then HB13.out (below_then hb14 hbn))
          have HX8 := Lib.hid ((hat14.same (S' := fun b => b < w14.heap.size) (fun b h => h.2) (fun _ _ => rfl)).below hbn)
          obtain ⟨q8, hq8⟩ : ∃ g, w14.heap.size = g := ⟨_, rfl⟩
          rw [hq8] at HR8
          have hq2 := at_any wv.heap.size V k3 A j W14 (HV.out.below (below_then HB12.out HB14.out)) hlt
          rw [HX.out] at hq2
          simp only at hq2
          have HAT := Lib.hid hq2
          clear hq2 hb14 hat14 hbn h14
          go_wp2_with fail
          try rw [hW14]
          try simp only [hq8]
          clear hW14 hq8
          go_wp2_with (go_at_call 19; refine HAT.out.mono ?_)
          clear HAT
          rintro e w15 ⟨a9, c9, rfl, hb15, hat15⟩
          obtain ⟨W15, hW15⟩ : ∃ X, w15.alloc (.cells #[.string q, .slice a9 vs.length c9] 24) = X := ⟨_, rfl⟩
          have hbn : Below w15.heap.size w15 W15 := by rw [← hW15]; exact (Below.refl _ _).alloc (Nat.le_refl _) _
          have h15 : W15.heap[w15.heap.size]? = some (.cells #[.string q, .slice a9 vs.length c9] 24 (0, 0)) := by rw [← hW15]; exact World.alloc_heap_new _ _
          have HR9 := Lib.hid h15
          have HB15 := Lib.hid (below_then HB14.out (below_then hb15 hbn))
          have HX9 := Lib.hid ((hat15.same (S' := fun b => b < w15.heap.size) (fun b h => h.2) (fun _ _ => rfl)).below hbn)
          obtain ⟨q9, hq9⟩ : ∃ g, w15.heap.size = g := ⟨_, rfl⟩
          rw [hq9] at HR9
          have HSA := Lib.hid (sameAtom_self (q, vs) _ _ _ _ W15 (HX8.out.below (below_then hb15 hbn)) HX9.out)
          have d80 := cells_at (row_lat (below_then hb15 hbn) HR8.out) 0 _ rfl
          have d81 := cells_at (row_lat (below_then hb15 hbn) HR8.out) 1 _ rfl
          have d90 := cells_at HR9.out 0 _ rfl
          have d91 := cells_at HR9.out 1 _ rfl
          clear hb15 hat15 hbn h15 HX8 HX9 HR8 HR9 HB14 HB13
          go_wp2_with fail
          try rw [hW15]
          try simp only [hq9]
          clear hW15 hq9
          go_wp2_with (go_at_call 20; refine HSA.out.mono ?_)
          clear HSA d80 d81 d90 d91
          rintro e w16 ⟨rfl, hb16⟩
          have HBZ := Lib.hid (below_then HB15.out hb16)
          clear hb16 HB15
          go_wp2
          go_roundw
          case rel => exact ⟨j + 1, by omega, by go_num, HBZ.out⟩
          case measure => simp [intOf]; omega
        · obtain rfl : j = A.length := by omega
          clear hlt hj HBK
          go_wp2_with (go_at_call 18; refine HLN.out.mono ?_)
          clear HLN
          rintro e w13 ⟨rfl, hb13⟩
          have HB13 := Lib.hid (below_then HBR.out hb13)
          clear hb13 HBR HB12
          have HBQ := Lib.hid (below_then HB7.out HB13.out)
          have d10 := cells_at (row_lat HBQ.out HKV.out) 0 _ rfl
          have d11 := cells_at (row_lat HBQ.out HKV.out) 1 _ rfl
          cases hv : validA (p, us) with
          | false =>
            have HVA := Lib.hid (validA_q (p, us) _ _ false w13 (HXV.out.below HBQ.out) HCX.out hv)
            have HHA := Lib.hid (show ¬ (p, us) ∈ A from fun h => (by have := (HS.out.good _ h).1; rw [hv] at this; cases this))
            have hr := addR_no (A := A) hv
            have HRR := Lib.hid hr
            have HVV := Lib.hid hv
            clear hr hv
            go_wp2_with (go_at_call 10; refine HVA.out.mono ?_)
            clear HVA
            rintro e w14 ⟨rfl, hb14⟩
            have HB14 := Lib.hid (below_then HB13.out hb14)
            clear hb14 d10 d11
            have d10 := cells_at (row_lat (below_then HB7.out HB14.out) HKV.out) 0 _ rfl
            have d11 := cells_at (row_lat (below_then HB7.out HB14.out) HKV.out) 1 _ rfl
            have HB15 := Lib.hid HB14.out
            have HAD := Lib.hid (add_b wv.heap.size V k3 A (p, us) _ _ false 2 A wv w14 (HV.out.below HB15.out) rfl (below_then HB7.out HB15.out) HXV.out HCX.out HRR.out.1 HRR.out.2)
            go_wp2_with (go_at_call 15; refine HAD.out.mono ?_)
            clear HAD d10 d11
            rintro e w16 ⟨rfl, k5, hI16, hb16⟩
            have HC6 := Lib.hid hI16
            have HB6 := Lib.hid ((below_then HB7.out HB15.out).trans hb16)
            have HS6 := Lib.hid (H2.out.s.below HB6.out)
            have HU6 := Lib.hid (H2.out.t.below HB6.out)
            have HX6 := Lib.hid (HXV.out.below HB6.out)
            have HK6 := Lib.hid (row_lat HB6.out HKV.out)
            clear hI16 hb16 HB15 HB14
            go_wp2_with fail
            have hst := @FL_grow [fV (.bool false), fV (.bool false), fV (.bool true), fV (.bool true), fV (.pointer (some ⟨S, 0, none⟩)), fV (.agg #[.string p, .slice ax us.length cx]), fV (.bool false), fV (.agg #[.string p, .slice ax us.length cx]), fV (.bool false), fV (.bool false), fV undef, fV undef, fV (.bool false), fV (.bool true), fV (.bool true), fV (.bool true), fV (.pointer (some ⟨S, 0, none⟩)), fV (.pointer (some ⟨V, 0, none⟩)), fV (.bool true), fV (.bool false), fV (.bool true), fV (.bool true), fV (.bool true), fV (.bool true), fV (.pointer (some ⟨U, 0, none⟩)), fV (.pointer (some ⟨V, 0, none⟩)), fV (.bool true), fV (.bool false), fV (.bool true), fV (.bool true), fV (.bool true), fV (.bool true)] (by
              intro F hF
              simp only [List.mem_cons, List.not_mem_nil, or_false] at hF
              rcases hF with rfl | rfl | rfl | rfl | rfl | rfl | rfl | rfl | rfl | rfl | rfl | rfl | rfl | rfl | rfl | rfl | rfl | rfl | rfl | rfl | rfl | rfl | rfl | rfl | rfl | rfl | rfl | rfl | rfl | rfl | rfl | rfl <;> first | exact fV_stays _)
            refine wp_region_grow_orB (by kernel_rfl) (FL [fV (.bool false), fV (.bool false), fV (.bool true), fV (.bool true), fV (.pointer (some ⟨S, 0, none⟩)), fV (.agg #[.string p, .slice ax us.length cx]), fV (.bool false), fV (.agg #[.string p, .slice ax us.length cx]), fV (.bool false), fV (.bool false), fV undef, fV undef, fV (.bool false), fV (.bool true), fV (.bool true), fV (.bool true), fV (.pointer (some ⟨S, 0, none⟩)), fV (.pointer (some ⟨V, 0, none⟩)), fV (.bool true), fV (.bool false), fV (.bool true), fV (.bool true), fV (.bool true), fV (.bool true), fV (.pointer (some ⟨U, 0, none⟩)), fV (.pointer (some ⟨V, 0, none⟩)), fV (.bool true), fV (.bool false), fV (.bool true), fV (.bool true), fV (.bool true), fV (.bool true)]) hst (by kernel_rfl) (steps_or ?_) ?_
            · refine ⟨?_, ?_, ?_, ?_, ?_, ?_, ?_, ?_, ?_, ?_, ?_, ?_, ?_, ?_, ?_, ?_, ?_, ?_, ?_, ?_, ?_, ?_, ?_, ?_, ?_, ?_, ?_, ?_, ?_, ?_, ?_, ?_, trivial⟩
              · intro a wx hb hd hs ho hp
                refine Or.inl ⟨rfl, ?_⟩
                have h15 : a.tmps.getD 15 undef = .bool false := (ho 15 (by kernel_rfl)).trans rfl
                unfold Oper.wp
                go_simp
                exact Stepped.at (v := .bool false) (by first | rfl | simp) hd (Below.refl _ _) rfl
              · intro a wx hb hd hs ho hp
                refine Or.inl ⟨rfl, ?_⟩
                have h14 : a.tmps.getD 14 undef = .bool false := (ho 14 (by kernel_rfl)).trans rfl
                unfold Oper.wp
                go_simp
                exact Stepped.at (v := .bool false) (by first | rfl | simp) hd (Below.refl _ _) rfl
              · intro a wx hb hd hs ho hp
                refine Or.inl ⟨rfl, ?_⟩
                have h119 : a.tmps.getD 119 undef = .bool false := facts_at hp 0 119 (by kernel_rfl)
                have h120 : a.tmps.getD 120 undef = .bool false := facts_at hp 1 120 (by kernel_rfl)
                unfold Oper.wp
                go_simp
                exact Stepped.at (v := .bool true) (by first | rfl | simp) hd (Below.refl _ _) rfl
              · intro a wx hb hd hs ho hp
                refine Or.inl ⟨rfl, ?_⟩
                have h121 : a.tmps.getD 121 undef = .bool true := facts_at hp 2 121 (by kernel_rfl)
                unfold Oper.wp
                go_simp
                exact Stepped.at (v := .bool true) (by first | rfl | simp) hd (Below.refl _ _) rfl
              · intro a wx hb hd hs ho hp
                refine Or.inl ⟨wanted_yes rfl (yielded_at (k := 3) (d := 122) (by kernel_rfl) (show a.tmps.getD 122 undef = _ from facts_at hp 3 122 (by kernel_rfl))), ?_⟩
                have h5 : a.tmps.getD 5 undef = .pointer (some ⟨S, 0, none⟩) := (ho 5 (by kernel_rfl)).trans rfl
                unfold Oper.wp
                go_simp
                exact Stepped.at (v := .pointer (some ⟨S, 0, none⟩)) (by first | rfl | simp) hd (Below.refl _ _) rfl
              · intro a wx hb hd hs ho hp
                refine Or.inl ⟨wanted_yes rfl (yielded_at (k := 3) (d := 122) (by kernel_rfl) (show a.tmps.getD 122 undef = _ from facts_at hp 3 122 (by kernel_rfl))), ?_⟩
                have h3 : a.tmps.getD 3 undef = .pointer (some ⟨m, 0, none⟩) := (ho 3 (by kernel_rfl)).trans rfl
                have hx := (hb.block (m) (Array.getElem?_eq_some_iff.1 HK6.out).1).trans HK6.out
                have s3 := qslot_of (hs.trans (rfl : _ = 150)) (by decide) h3
                have x0 := cells_at hx 0 _ rfl
                have x1 := cells_at hx 1 _ rfl
                unfold Oper.wp
                go_simp
                exact Stepped.at (v := .agg #[.string p, .slice ax us.length cx]) (by first | rfl | simp) hd (Below.refl _ _) rfl
              · intro a wx hb hd hs ho hp
                refine Or.inl ⟨wanted_yes rfl (yielded_at (k := 3) (d := 122) (by kernel_rfl) (show a.tmps.getD 122 undef = _ from facts_at hp 3 122 (by kernel_rfl))), ?_⟩
                have h123 : a.tmps.getD 123 undef = .pointer (some ⟨S, 0, none⟩) := facts_at hp 4 123 (by kernel_rfl)
                have h124 : a.tmps.getD 124 undef = .agg #[.string p, .slice ax us.length cx] := facts_at hp 5 124 (by kernel_rfl)
                unfold Oper.wp
                go_simp
                refine (has_q w4.heap.size S k1 A (p, us) _ _ false wx (HS6.out.below hb) (HX6.out.below hb) HCX.out ⟨fun e => (by cases e), fun h => absurd h HHA.out⟩).mono ?_
                rintro e w9 ⟨rfl, hb9⟩
                exact Stepped.at (v := .bool false) rfl hd (hb9) rfl
              · intro a wx hb hd hs ho hp
                refine Or.inl ⟨wanted_yes rfl (yielded_at (k := 3) (d := 122) (by kernel_rfl) (show a.tmps.getD 122 undef = _ from facts_at hp 3 122 (by kernel_rfl))), ?_⟩
                have h3 : a.tmps.getD 3 undef = .pointer (some ⟨m, 0, none⟩) := (ho 3 (by kernel_rfl)).trans rfl
                have hx := (hb.block (m) (Array.getElem?_eq_some_iff.1 HK6.out).1).trans HK6.out
                have s3 := qslot_of (hs.trans (rfl : _ = 150)) (by decide) h3
                have x0 := cells_at hx 0 _ rfl
                have x1 := cells_at hx 1 _ rfl
                unfold Oper.wp
                go_simp
                exact Stepped.at (v := .agg #[.string p, .slice ax us.length cx]) (by first | rfl | simp) hd (Below.refl _ _) rfl
              · intro a wx hb hd hs ho hp
                refine Or.inl ⟨wanted_yes rfl (yielded_at (k := 3) (d := 122) (by kernel_rfl) (show a.tmps.getD 122 undef = _ from facts_at hp 3 122 (by kernel_rfl))), ?_⟩
                have h126 : a.tmps.getD 126 undef = .agg #[.string p, .slice ax us.length cx] := facts_at hp 7 126 (by kernel_rfl)
                unfold Oper.wp
                go_simp
                refine (validA_q (p, us) _ _ false wx (HX6.out.below hb) HCX.out HVV.out).mono ?_
                rintro e w9 ⟨rfl, hb9⟩
                exact Stepped.at (v := .bool false) rfl hd (hb9) rfl
              · intro a wx hb hd hs ho hp
                refine Or.inl ⟨wanted_yes rfl (yielded_at (k := 3) (d := 122) (by kernel_rfl) (show a.tmps.getD 122 undef = _ from facts_at hp 3 122 (by kernel_rfl))), ?_⟩
                have h127 : a.tmps.getD 127 undef = .bool false := facts_at hp 8 127 (by kernel_rfl)
                unfold Oper.wp
                go_simp
                exact Stepped.at (v := .bool false) (by first | rfl | simp) hd (Below.refl _ _) rfl
              · intro a wx hb hd hs ho hp
                exact Or.inr ⟨wanted_no rfl (yielded_at (k := 9) (d := 128) (by kernel_rfl) (show a.tmps.getD 128 undef = _ from facts_at hp 9 128 (by kernel_rfl))), fun _ _ => rfl⟩
              · intro a wx hb hd hs ho hp
                exact Or.inr ⟨wanted_no rfl (yielded_at (k := 9) (d := 128) (by kernel_rfl) (show a.tmps.getD 128 undef = _ from facts_at hp 9 128 (by kernel_rfl))), fun _ _ => rfl⟩
              · intro a wx hb hd hs ho hp
                refine Or.inl ⟨wanted_yes rfl (yielded_at (k := 3) (d := 122) (by kernel_rfl) (show a.tmps.getD 122 undef = _ from facts_at hp 3 122 (by kernel_rfl))), ?_⟩
                have h128 : a.tmps.getD 128 undef = .bool false := facts_at hp 9 128 (by kernel_rfl)
                have h130 : a.tmps.getD 130 undef = undef := facts_at hp 11 130 (by kernel_rfl)
                unfold Oper.wp
                go_simp
                exact Stepped.at (v := .bool false) (by first | rfl | simp) hd (Below.refl _ _) rfl
              · intro a wx hb hd hs ho hp
                refine Or.inl ⟨wanted_yes rfl (yielded_at (k := 3) (d := 122) (by kernel_rfl) (show a.tmps.getD 122 undef = _ from facts_at hp 3 122 (by kernel_rfl))), ?_⟩
                have h125 : a.tmps.getD 125 undef = .bool false := facts_at hp 6 125 (by kernel_rfl)
                have h131 : a.tmps.getD 131 undef = .bool false := facts_at hp 12 131 (by kernel_rfl)
                unfold Oper.wp
                go_simp
                exact Stepped.at (v := .bool true) (by first | rfl | simp) hd (Below.refl _ _) rfl
              · intro a wx hb hd hs ho hp
                refine Or.inl ⟨rfl, ?_⟩
                have h122 : a.tmps.getD 122 undef = .bool true := facts_at hp 3 122 (by kernel_rfl)
                have h132 : a.tmps.getD 132 undef = .bool true := facts_at hp 13 132 (by kernel_rfl)
                unfold Oper.wp
                go_simp
                exact Stepped.at (v := .bool true) (by first | rfl | simp) hd (Below.refl _ _) rfl
              · intro a wx hb hd hs ho hp
                refine Or.inl ⟨rfl, ?_⟩
                have h133 : a.tmps.getD 133 undef = .bool true := facts_at hp 14 133 (by kernel_rfl)
                unfold Oper.wp
                go_simp
                exact Stepped.at (v := .bool true) (by first | rfl | simp) hd (Below.refl _ _) rfl
              · intro a wx hb hd hs ho hp
                refine Or.inl ⟨wanted_yes rfl (yielded_at (k := 15) (d := 134) (by kernel_rfl) (show a.tmps.getD 134 undef = _ from facts_at hp 15 134 (by kernel_rfl))), ?_⟩
                have h5 : a.tmps.getD 5 undef = .pointer (some ⟨S, 0, none⟩) := (ho 5 (by kernel_rfl)).trans rfl
                unfold Oper.wp
                go_simp
                exact Stepped.at (v := .pointer (some ⟨S, 0, none⟩)) (by first | rfl | simp) hd (Below.refl _ _) rfl
              · intro a wx hb hd hs ho hp
                refine Or.inl ⟨wanted_yes rfl (yielded_at (k := 15) (d := 134) (by kernel_rfl) (show a.tmps.getD 134 undef = _ from facts_at hp 15 134 (by kernel_rfl))), ?_⟩
                have h8 : a.tmps.getD 8 undef = .pointer (some ⟨V, 0, none⟩) := (ho 8 (by kernel_rfl)).trans rfl
                unfold Oper.wp
                go_simp
                exact Stepped.at (v := .pointer (some ⟨V, 0, none⟩)) (by first | rfl | simp) hd (Below.refl _ _) rfl
              · intro a wx hb hd hs ho hp
                refine Or.inl ⟨wanted_yes rfl (yielded_at (k := 15) (d := 134) (by kernel_rfl) (show a.tmps.getD 134 undef = _ from facts_at hp 15 134 (by kernel_rfl))), ?_⟩
                have h135 : a.tmps.getD 135 undef = .pointer (some ⟨S, 0, none⟩) := facts_at hp 16 135 (by kernel_rfl)
                have h136 : a.tmps.getD 136 undef = .pointer (some ⟨V, 0, none⟩) := facts_at hp 17 136 (by kernel_rfl)
                unfold Oper.wp
                go_simp
                refine (equal_any w4.heap.size wv.heap.size S V k1 k5 A A true wx (HS6.out.below hb) (HC6.out.below hb) ⟨fun _ => ⟨rfl, fun _ h => h⟩, fun _ => rfl⟩).mono ?_
                rintro e w9 ⟨rfl, hb9⟩
                exact Stepped.at (v := .bool true) rfl hd (hb9) rfl
              · intro a wx hb hd hs ho hp
                refine Or.inl ⟨wanted_yes rfl (yielded_at (k := 15) (d := 134) (by kernel_rfl) (show a.tmps.getD 134 undef = _ from facts_at hp 15 134 (by kernel_rfl))), ?_⟩
                have h14 : a.tmps.getD 14 undef = .bool false := (ho 14 (by kernel_rfl)).trans rfl
                unfold Oper.wp
                go_simp
                exact Stepped.at (v := .bool false) (by first | rfl | simp) hd (Below.refl _ _) rfl
              · intro a wx hb hd hs ho hp
                refine Or.inl ⟨wanted_yes rfl (yielded_at (k := 15) (d := 134) (by kernel_rfl) (show a.tmps.getD 134 undef = _ from facts_at hp 15 134 (by kernel_rfl))), ?_⟩
                have h138 : a.tmps.getD 138 undef = .bool false := facts_at hp 19 138 (by kernel_rfl)
                unfold Oper.wp
                go_simp
                exact Stepped.at (v := .bool true) (by first | rfl | simp) hd (Below.refl _ _) rfl
              · intro a wx hb hd hs ho hp
                refine Or.inl ⟨wanted_yes rfl (yielded_at (k := 15) (d := 134) (by kernel_rfl) (show a.tmps.getD 134 undef = _ from facts_at hp 15 134 (by kernel_rfl))), ?_⟩
                have h137 : a.tmps.getD 137 undef = .bool true := facts_at hp 18 137 (by kernel_rfl)
                have h139 : a.tmps.getD 139 undef = .bool true := facts_at hp 20 139 (by kernel_rfl)
                unfold Oper.wp
                go_simp
                exact Stepped.at (v := .bool true) (by first | rfl | simp) hd (Below.refl _ _) rfl
              · intro a wx hb hd hs ho hp
                refine Or.inl ⟨rfl, ?_⟩
                have h134 : a.tmps.getD 134 undef = .bool true := facts_at hp 15 134 (by kernel_rfl)
                have h140 : a.tmps.getD 140 undef = .bool true := facts_at hp 21 140 (by kernel_rfl)
                unfold Oper.wp
                go_simp
                exact Stepped.at (v := .bool true) (by first | rfl | simp) hd (Below.refl _ _) rfl
              · intro a wx hb hd hs ho hp
                refine Or.inl ⟨rfl, ?_⟩
                have h141 : a.tmps.getD 141 undef = .bool true := facts_at hp 22 141 (by kernel_rfl)
                unfold Oper.wp
                go_simp
                exact Stepped.at (v := .bool true) (by first | rfl | simp) hd (Below.refl _ _) rfl
              · intro a wx hb hd hs ho hp
                refine Or.inl ⟨wanted_yes rfl (yielded_at (k := 23) (d := 142) (by kernel_rfl) (show a.tmps.getD 142 undef = _ from facts_at hp 23 142 (by kernel_rfl))), ?_⟩
                have h6 : a.tmps.getD 6 undef = .pointer (some ⟨U, 0, none⟩) := (ho 6 (by kernel_rfl)).trans rfl
                unfold Oper.wp
                go_simp
                exact Stepped.at (v := .pointer (some ⟨U, 0, none⟩)) (by first | rfl | simp) hd (Below.refl _ _) rfl
              · intro a wx hb hd hs ho hp
                refine Or.inl ⟨wanted_yes rfl (yielded_at (k := 23) (d := 142) (by kernel_rfl) (show a.tmps.getD 142 undef = _ from facts_at hp 23 142 (by kernel_rfl))), ?_⟩
                have h8 : a.tmps.getD 8 undef = .pointer (some ⟨V, 0, none⟩) := (ho 8 (by kernel_rfl)).trans rfl
                unfold Oper.wp
                go_simp
                exact Stepped.at (v := .pointer (some ⟨V, 0, none⟩)) (by first | rfl | simp) hd (Below.refl _ _) rfl
              · intro a wx hb hd hs ho hp
                refine Or.inl ⟨wanted_yes rfl (yielded_at (k := 23) (d := 142) (by kernel_rfl) (show a.tmps.getD 142 undef = _ from facts_at hp 23 142 (by kernel_rfl))), ?_⟩
                have h143 : a.tmps.getD 143 undef = .pointer (some ⟨U, 0, none⟩) := facts_at hp 24 143 (by kernel_rfl)
                have h144 : a.tmps.getD 144 undef = .pointer (some ⟨V, 0, none⟩) := facts_at hp 25 144 (by kernel_rfl)
                unfold Oper.wp
                go_simp
                refine (equal_any w4.heap.size wv.heap.size U V k2 k5 M A true wx (HU6.out.below hb) (HC6.out.below hb) ⟨fun _ => ⟨HJ.out.1.symm, HJ.out.2.2⟩, fun _ => rfl⟩).mono ?_
                rintro e w9 ⟨rfl, hb9⟩
                exact Stepped.at (v := .bool true) rfl hd (hb9) rfl
              · intro a wx hb hd hs ho hp
                refine Or.inl ⟨wanted_yes rfl (yielded_at (k := 23) (d := 142) (by kernel_rfl) (show a.tmps.getD 142 undef = _ from facts_at hp 23 142 (by kernel_rfl))), ?_⟩
                have h14 : a.tmps.getD 14 undef = .bool false := (ho 14 (by kernel_rfl)).trans rfl
                unfold Oper.wp
                go_simp
                exact Stepped.at (v := .bool false) (by first | rfl | simp) hd (Below.refl _ _) rfl
              · intro a wx hb hd hs ho hp
                refine Or.inl ⟨wanted_yes rfl (yielded_at (k := 23) (d := 142) (by kernel_rfl) (show a.tmps.getD 142 undef = _ from facts_at hp 23 142 (by kernel_rfl))), ?_⟩
                have h146 : a.tmps.getD 146 undef = .bool false := facts_at hp 27 146 (by kernel_rfl)
                unfold Oper.wp
                go_simp
                exact Stepped.at (v := .bool true) (by first | rfl | simp) hd (Below.refl _ _) rfl
              · intro a wx hb hd hs ho hp
                refine Or.inl ⟨wanted_yes rfl (yielded_at (k := 23) (d := 142) (by kernel_rfl) (show a.tmps.getD 142 undef = _ from facts_at hp 23 142 (by kernel_rfl))), ?_⟩
                have h145 : a.tmps.getD 145 undef = .bool true := facts_at hp 26 145 (by kernel_rfl)
                have h147 : a.tmps.getD 147 undef = .bool true := facts_at hp 28 147 (by kernel_rfl)
                unfold Oper.wp
                go_simp
                exact Stepped.at (v := .bool true) (by first | rfl | simp) hd (Below.refl _ _) rfl
              · intro a wx hb hd hs ho hp
                refine Or.inl ⟨rfl, ?_⟩
                have h142 : a.tmps.getD 142 undef = .bool true := facts_at hp 23 142 (by kernel_rfl)
                have h148 : a.tmps.getD 148 undef = .bool true := facts_at hp 29 148 (by kernel_rfl)
                unfold Oper.wp
                go_simp
                exact Stepped.at (v := .bool true) (by first | rfl | simp) hd (Below.refl _ _) rfl
              · intro a wx hb hd hs ho hp
                refine Or.inl ⟨rfl, ?_⟩
                have h149 : a.tmps.getD 149 undef = .bool true := facts_at hp 30 149 (by kernel_rfl)
                unfold Oper.wp
                go_simp
                exact Stepped.at (v := .bool true) (by first | rfl | simp) hd (Below.refl _ _) rfl
            intro ac W17 hJ
            obtain ⟨u119, f119⟩ : ∃ u, ac.tmps.getD 119 undef = u := ⟨_, rfl⟩
            obtain ⟨u120, f120⟩ : ∃ u, ac.tmps.getD 120 undef = u := ⟨_, rfl⟩
            obtain ⟨u121, f121⟩ : ∃ u, ac.tmps.getD 121 undef = u := ⟨_, rfl⟩
            obtain ⟨u122, f122⟩ : ∃ u, ac.tmps.getD 122 undef = u := ⟨_, rfl⟩
            obtain ⟨u123, f123⟩ : ∃ u, ac.tmps.getD 123 undef = u := ⟨_, rfl⟩
            obtain ⟨u124, f124⟩ : ∃ u, ac.tmps.getD 124 undef = u := ⟨_, rfl⟩
            obtain ⟨u125, f125⟩ : ∃ u, ac.tmps.getD 125 undef = u := ⟨_, rfl⟩
            obtain ⟨u126, f126⟩ : ∃ u, ac.tmps.getD 126 undef = u := ⟨_, rfl⟩
            obtain ⟨u127, f127⟩ : ∃ u, ac.tmps.getD 127 undef = u := ⟨_, rfl⟩
            obtain ⟨u128, f128⟩ : ∃ u, ac.tmps.getD 128 undef = u := ⟨_, rfl⟩
            obtain ⟨u129, f129⟩ : ∃ u, ac.tmps.getD 129 undef = u := ⟨_, rfl⟩
            obtain ⟨u130, f130⟩ : ∃ u, ac.tmps.getD 130 undef = u := ⟨_, rfl⟩
            obtain ⟨u131, f131⟩ : ∃ u, ac.tmps.getD 131 undef = u := ⟨_, rfl⟩
            obtain ⟨u132, f132⟩ : ∃ u, ac.tmps.getD 132 undef = u := ⟨_, rfl⟩
            obtain ⟨u133, f133⟩ : ∃ u, ac.tmps.getD 133 undef = u := ⟨_, rfl⟩
            obtain ⟨u134, f134⟩ : ∃ u, ac.tmps.getD 134 undef = u := ⟨_, rfl⟩
            obtain ⟨u135, f135⟩ : ∃ u, ac.tmps.getD 135 undef = u := ⟨_, rfl⟩
            obtain ⟨u136, f136⟩ : ∃ u, ac.tmps.getD 136 undef = u := ⟨_, rfl⟩
            obtain ⟨u137, f137⟩ : ∃ u, ac.tmps.getD 137 undef = u := ⟨_, rfl⟩
            obtain ⟨u138, f138⟩ : ∃ u, ac.tmps.getD 138 undef = u := ⟨_, rfl⟩
            obtain ⟨u139, f139⟩ : ∃ u, ac.tmps.getD 139 undef = u := ⟨_, rfl⟩
            obtain ⟨u140, f140⟩ : ∃ u, ac.tmps.getD 140 undef = u := ⟨_, rfl⟩
            obtain ⟨u141, f141⟩ : ∃ u, ac.tmps.getD 141 undef = u := ⟨_, rfl⟩
            obtain ⟨u142, f142⟩ : ∃ u, ac.tmps.getD 142 undef = u := ⟨_, rfl⟩
            obtain ⟨u143, f143⟩ : ∃ u, ac.tmps.getD 143 undef = u := ⟨_, rfl⟩
            obtain ⟨u144, f144⟩ : ∃ u, ac.tmps.getD 144 undef = u := ⟨_, rfl⟩
            obtain ⟨u145, f145⟩ : ∃ u, ac.tmps.getD 145 undef = u := ⟨_, rfl⟩
            obtain ⟨u146, f146⟩ : ∃ u, ac.tmps.getD 146 undef = u := ⟨_, rfl⟩
            obtain ⟨u147, f147⟩ : ∃ u, ac.tmps.getD 147 undef = u := ⟨_, rfl⟩
            obtain ⟨u148, f148⟩ : ∃ u, ac.tmps.getD 148 undef = u := ⟨_, rfl⟩
            obtain ⟨u149, f149⟩ : ∃ u, ac.tmps.getD 149 undef = u := ⟨_, rfl⟩
            have f4 : ac.tmps.getD 4 undef = .bool true := hJ.at_end 31 4 (by kernel_rfl)
            have hBelow := hJ.below
            obtain ⟨TT, DD⟩ := ac
            obtain rfl : DD = [] := hJ.defers
            have hE := slots_merge [false, false, false, false, true, false, false, false, false, false, false, false, false, false, false, false, false, false, false, false, false, false, false, false, false, false, false, false, false, false, false, false, false, false, false, false, false, false, false, false, false, false, false, false, false, false, false, false, false, false, false, false, false, false, false, false, false, false, false, false, false, false, false, false, false, false, false, false, false, false, false, false, false, false, false, false, false, false, false, false, false, false, false, false, false, false, false, false, false, false, false, false, false, false, false, false, false, false, false, false, false, false, false, false, false, false, false, false, false, false, false, false, false, false, false, false, false, false, false, true, true, true, true, true, true, true, true, true, true, true, true, true, true, true, true, true, true, true, true, true, true, true, true, true, true, true, true, true, true, true] 150 hJ.tmps rfl (by kernel_rfl) hJ.outer
            simp only [mergeFrom, Nat.zero_add, Nat.reduceAdd, f119, f120, f121, f122, f123, f124, f125, f126, f127, f128, f129, f130, f131, f132, f133, f134, f135, f136, f137, f138, f139, f140, f141, f142, f143, f144, f145, f146, f147, f148, f149, f4] at hE
            clear hst hJ f119 f120 f121 f122 f123 f124 f125 f126 f127 f128 f129 f130 f131 f132 f133 f134 f135 f136 f137 f138 f139 f140 f141 f142 f143 f144 f145 f146 f147 f148 f149 f4
            subst hE
            have HBZ := Lib.hid (below_then HBV.out (below_then HB6.out hBelow))
            clear hBelow
            go_wp2
            go_ret
            exact ⟨rfl, HBZ.out⟩
          | true =>
            by_cases hin : (p, us) ∈ A
            · skip
              have HVA := Lib.hid (validA_q (p, us) _ _ true w13 (HXV.out.below HBQ.out) HCX.out hv)
              have HHA := Lib.hid (show (p, us) ∈ A from hin)
              have hr := addR_old hv hin
              have HRR := Lib.hid hr
              have HVV := Lib.hid hv
              clear hr hv hin
              go_wp2_with (go_at_call 10; refine HVA.out.mono ?_)
              clear HVA
              rintro e w14 ⟨rfl, hb14⟩
              have HB14 := Lib.hid (below_then HB13.out hb14)
              clear hb14 d10 d11
              have d10 := cells_at (row_lat (below_then HB7.out HB14.out) HKV.out) 0 _ rfl
              have d11 := cells_at (row_lat (below_then HB7.out HB14.out) HKV.out) 1 _ rfl
              have HHS := Lib.hid (has_q w4.heap.size S k1 A (p, us) _ _ true w14 (HS.out.below HB14.out) (HXV.out.below (below_then HB7.out HB14.out)) HCX.out ⟨fun _ => HHA.out, fun _ => rfl⟩)
              go_wp2_with (go_at_call 17; refine HHS.out.mono ?_)
              clear HHS
              rintro e w15 ⟨rfl, hb15⟩
              have HB15 := Lib.hid (below_then HB14.out hb15)
              clear hb15 d10 d11
              have d10 := cells_at (row_lat (below_then HB7.out HB15.out) HKV.out) 0 _ rfl
              have d11 := cells_at (row_lat (below_then HB7.out HB15.out) HKV.out) 1 _ rfl
              have HAD := Lib.hid (add_b wv.heap.size V k3 A (p, us) _ _ false 0 A wv w15 (HV.out.below HB15.out) rfl (below_then HB7.out HB15.out) HXV.out HCX.out HRR.out.1 HRR.out.2)
              go_wp2_with (go_at_call 15; refine HAD.out.mono ?_)
              clear HAD d10 d11
              rintro e w16 ⟨rfl, k5, hI16, hb16⟩
              have HC6 := Lib.hid hI16
              have HB6 := Lib.hid ((below_then HB7.out HB15.out).trans hb16)
              have HS6 := Lib.hid (H2.out.s.below HB6.out)
              have HU6 := Lib.hid (H2.out.t.below HB6.out)
              have HX6 := Lib.hid (HXV.out.below HB6.out)
              have HK6 := Lib.hid (row_lat HB6.out HKV.out)
              clear hI16 hb16 HB15 HB14
              go_wp2_with fail
              have hst := @FL_grow [fV (.bool false), fV (.bool false), fV (.bool true), fV (.bool true), fV (.pointer (some ⟨S, 0, none⟩)), fV (.agg #[.string p, .slice ax us.length cx]), fV (.bool true), fV (.agg #[.string p, .slice ax us.length cx]), fV (.bool true), fV (.bool true), fV (.bool false), fV (.bool true), fV (.bool true), fV (.bool true), fV (.bool true), fV (.bool true), fV (.pointer (some ⟨S, 0, none⟩)), fV (.pointer (some ⟨V, 0, none⟩)), fV (.bool true), fV (.bool false), fV (.bool true), fV (.bool true), fV (.bool true), fV (.bool true), fV (.pointer (some ⟨U, 0, none⟩)), fV (.pointer (some ⟨V, 0, none⟩)), fV (.bool true), fV (.bool false), fV (.bool true), fV (.bool true), fV (.bool true), fV (.bool true)] (by
                intro F hF
                simp only [List.mem_cons, List.not_mem_nil, or_false] at hF
                rcases hF with rfl | rfl | rfl | rfl | rfl | rfl | rfl | rfl | rfl | rfl | rfl | rfl | rfl | rfl | rfl | rfl | rfl | rfl | rfl | rfl | rfl | rfl | rfl | rfl | rfl | rfl | rfl | rfl | rfl | rfl | rfl | rfl <;> first | exact fV_stays _)
              refine wp_region_grow_orB (by kernel_rfl) (FL [fV (.bool false), fV (.bool false), fV (.bool true), fV (.bool true), fV (.pointer (some ⟨S, 0, none⟩)), fV (.agg #[.string p, .slice ax us.length cx]), fV (.bool true), fV (.agg #[.string p, .slice ax us.length cx]), fV (.bool true), fV (.bool true), fV (.bool false), fV (.bool true), fV (.bool true), fV (.bool true), fV (.bool true), fV (.bool true), fV (.pointer (some ⟨S, 0, none⟩)), fV (.pointer (some ⟨V, 0, none⟩)), fV (.bool true), fV (.bool false), fV (.bool true), fV (.bool true), fV (.bool true), fV (.bool true), fV (.pointer (some ⟨U, 0, none⟩)), fV (.pointer (some ⟨V, 0, none⟩)), fV (.bool true), fV (.bool false), fV (.bool true), fV (.bool true), fV (.bool true), fV (.bool true)]) hst (by kernel_rfl) (steps_or ?_) ?_
              · refine ⟨?_, ?_, ?_, ?_, ?_, ?_, ?_, ?_, ?_, ?_, ?_, ?_, ?_, ?_, ?_, ?_, ?_, ?_, ?_, ?_, ?_, ?_, ?_, ?_, ?_, ?_, ?_, ?_, ?_, ?_, ?_, ?_, trivial⟩
                · intro a wx hb hd hs ho hp
                  refine Or.inl ⟨rfl, ?_⟩
                  have h15 : a.tmps.getD 15 undef = .bool false := (ho 15 (by kernel_rfl)).trans rfl
                  unfold Oper.wp
                  go_simp
                  exact Stepped.at (v := .bool false) (by first | rfl | simp) hd (Below.refl _ _) rfl
                · intro a wx hb hd hs ho hp
                  refine Or.inl ⟨rfl, ?_⟩
                  have h14 : a.tmps.getD 14 undef = .bool false := (ho 14 (by kernel_rfl)).trans rfl
                  unfold Oper.wp
                  go_simp
                  exact Stepped.at (v := .bool false) (by first | rfl | simp) hd (Below.refl _ _) rfl
                · intro a wx hb hd hs ho hp
                  refine Or.inl ⟨rfl, ?_⟩
                  have h119 : a.tmps.getD 119 undef = .bool false := facts_at hp 0 119 (by kernel_rfl)
                  have h120 : a.tmps.getD 120 undef = .bool false := facts_at hp 1 120 (by kernel_rfl)
                  unfold Oper.wp
                  go_simp
                  exact Stepped.at (v := .bool true) (by first | rfl | simp) hd (Below.refl _ _) rfl
                · intro a wx hb hd hs ho hp
                  refine Or.inl ⟨rfl, ?_⟩
                  have h121 : a.tmps.getD 121 undef = .bool true := facts_at hp 2 121 (by kernel_rfl)
                  unfold Oper.wp
                  go_simp
                  exact Stepped.at (v := .bool true) (by first | rfl | simp) hd (Below.refl _ _) rfl
                · intro a wx hb hd hs ho hp
                  refine Or.inl ⟨wanted_yes rfl (yielded_at (k := 3) (d := 122) (by kernel_rfl) (show a.tmps.getD 122 undef = _ from facts_at hp 3 122 (by kernel_rfl))), ?_⟩
                  have h5 : a.tmps.getD 5 undef = .pointer (some ⟨S, 0, none⟩) := (ho 5 (by kernel_rfl)).trans rfl
                  unfold Oper.wp
                  go_simp
                  exact Stepped.at (v := .pointer (some ⟨S, 0, none⟩)) (by first | rfl | simp) hd (Below.refl _ _) rfl
                · intro a wx hb hd hs ho hp
                  refine Or.inl ⟨wanted_yes rfl (yielded_at (k := 3) (d := 122) (by kernel_rfl) (show a.tmps.getD 122 undef = _ from facts_at hp 3 122 (by kernel_rfl))), ?_⟩
                  have h3 : a.tmps.getD 3 undef = .pointer (some ⟨m, 0, none⟩) := (ho 3 (by kernel_rfl)).trans rfl
                  have hx := (hb.block (m) (Array.getElem?_eq_some_iff.1 HK6.out).1).trans HK6.out
                  have s3 := qslot_of (hs.trans (rfl : _ = 150)) (by decide) h3
                  have x0 := cells_at hx 0 _ rfl
                  have x1 := cells_at hx 1 _ rfl
                  unfold Oper.wp
                  go_simp
                  exact Stepped.at (v := .agg #[.string p, .slice ax us.length cx]) (by first | rfl | simp) hd (Below.refl _ _) rfl
                · intro a wx hb hd hs ho hp
                  refine Or.inl ⟨wanted_yes rfl (yielded_at (k := 3) (d := 122) (by kernel_rfl) (show a.tmps.getD 122 undef = _ from facts_at hp 3 122 (by kernel_rfl))), ?_⟩
                  have h123 : a.tmps.getD 123 undef = .pointer (some ⟨S, 0, none⟩) := facts_at hp 4 123 (by kernel_rfl)
                  have h124 : a.tmps.getD 124 undef = .agg #[.string p, .slice ax us.length cx] := facts_at hp 5 124 (by kernel_rfl)
                  unfold Oper.wp
                  go_simp
                  refine (has_q w4.heap.size S k1 A (p, us) _ _ true wx (HS6.out.below hb) (HX6.out.below hb) HCX.out ⟨fun _ => HHA.out, fun _ => rfl⟩).mono ?_
                  rintro e w9 ⟨rfl, hb9⟩
                  exact Stepped.at (v := .bool true) rfl hd (hb9) rfl
                · intro a wx hb hd hs ho hp
                  refine Or.inl ⟨wanted_yes rfl (yielded_at (k := 3) (d := 122) (by kernel_rfl) (show a.tmps.getD 122 undef = _ from facts_at hp 3 122 (by kernel_rfl))), ?_⟩
                  have h3 : a.tmps.getD 3 undef = .pointer (some ⟨m, 0, none⟩) := (ho 3 (by kernel_rfl)).trans rfl
                  have hx := (hb.block (m) (Array.getElem?_eq_some_iff.1 HK6.out).1).trans HK6.out
                  have s3 := qslot_of (hs.trans (rfl : _ = 150)) (by decide) h3
                  have x0 := cells_at hx 0 _ rfl
                  have x1 := cells_at hx 1 _ rfl
                  unfold Oper.wp
                  go_simp
                  exact Stepped.at (v := .agg #[.string p, .slice ax us.length cx]) (by first | rfl | simp) hd (Below.refl _ _) rfl
                · intro a wx hb hd hs ho hp
                  refine Or.inl ⟨wanted_yes rfl (yielded_at (k := 3) (d := 122) (by kernel_rfl) (show a.tmps.getD 122 undef = _ from facts_at hp 3 122 (by kernel_rfl))), ?_⟩
                  have h126 : a.tmps.getD 126 undef = .agg #[.string p, .slice ax us.length cx] := facts_at hp 7 126 (by kernel_rfl)
                  unfold Oper.wp
                  go_simp
                  refine (validA_q (p, us) _ _ true wx (HX6.out.below hb) HCX.out HVV.out).mono ?_
                  rintro e w9 ⟨rfl, hb9⟩
                  exact Stepped.at (v := .bool true) rfl hd (hb9) rfl
                · intro a wx hb hd hs ho hp
                  refine Or.inl ⟨wanted_yes rfl (yielded_at (k := 3) (d := 122) (by kernel_rfl) (show a.tmps.getD 122 undef = _ from facts_at hp 3 122 (by kernel_rfl))), ?_⟩
                  have h127 : a.tmps.getD 127 undef = .bool true := facts_at hp 8 127 (by kernel_rfl)
                  unfold Oper.wp
                  go_simp
                  exact Stepped.at (v := .bool true) (by first | rfl | simp) hd (Below.refl _ _) rfl
                · intro a wx hb hd hs ho hp
                  refine Or.inl ⟨wanted_yes rfl (yielded_at (k := 9) (d := 128) (by kernel_rfl) (show a.tmps.getD 128 undef = _ from facts_at hp 9 128 (by kernel_rfl))), ?_⟩
                  have h14 : a.tmps.getD 14 undef = .bool false := (ho 14 (by kernel_rfl)).trans rfl
                  unfold Oper.wp
                  go_simp
                  exact Stepped.at (v := .bool false) (by first | rfl | simp) hd (Below.refl _ _) rfl
                · intro a wx hb hd hs ho hp
                  refine Or.inl ⟨wanted_yes rfl (yielded_at (k := 9) (d := 128) (by kernel_rfl) (show a.tmps.getD 128 undef = _ from facts_at hp 9 128 (by kernel_rfl))), ?_⟩
                  have h129 : a.tmps.getD 129 undef = .bool false := facts_at hp 10 129 (by kernel_rfl)
                  unfold Oper.wp
                  go_simp
                  exact Stepped.at (v := .bool true) (by first | rfl | simp) hd (Below.refl _ _) rfl
                · intro a wx hb hd hs ho hp
                  refine Or.inl ⟨wanted_yes rfl (yielded_at (k := 3) (d := 122) (by kernel_rfl) (show a.tmps.getD 122 undef = _ from facts_at hp 3 122 (by kernel_rfl))), ?_⟩
                  have h128 : a.tmps.getD 128 undef = .bool true := facts_at hp 9 128 (by kernel_rfl)
                  have h130 : a.tmps.getD 130 undef = .bool true := facts_at hp 11 130 (by kernel_rfl)
                  unfold Oper.wp
                  go_simp
                  exact Stepped.at (v := .bool true) (by first | rfl | simp) hd (Below.refl _ _) rfl
                · intro a wx hb hd hs ho hp
                  refine Or.inl ⟨wanted_yes rfl (yielded_at (k := 3) (d := 122) (by kernel_rfl) (show a.tmps.getD 122 undef = _ from facts_at hp 3 122 (by kernel_rfl))), ?_⟩
                  have h125 : a.tmps.getD 125 undef = .bool true := facts_at hp 6 125 (by kernel_rfl)
                  have h131 : a.tmps.getD 131 undef = .bool true := facts_at hp 12 131 (by kernel_rfl)
                  unfold Oper.wp
                  go_simp
                  exact Stepped.at (v := .bool true) (by first | rfl | simp) hd (Below.refl _ _) rfl
                · intro a wx hb hd hs ho hp
                  refine Or.inl ⟨rfl, ?_⟩
                  have h122 : a.tmps.getD 122 undef = .bool true := facts_at hp 3 122 (by kernel_rfl)
                  have h132 : a.tmps.getD 132 undef = .bool true := facts_at hp 13 132 (by kernel_rfl)
                  unfold Oper.wp
                  go_simp
                  exact Stepped.at (v := .bool true) (by first | rfl | simp) hd (Below.refl _ _) rfl
                · intro a wx hb hd hs ho hp
                  refine Or.inl ⟨rfl, ?_⟩
                  have h133 : a.tmps.getD 133 undef = .bool true := facts_at hp 14 133 (by kernel_rfl)
                  unfold Oper.wp
                  go_simp
                  exact Stepped.at (v := .bool true) (by first | rfl | simp) hd (Below.refl _ _) rfl
                · intro a wx hb hd hs ho hp
                  refine Or.inl ⟨wanted_yes rfl (yielded_at (k := 15) (d := 134) (by kernel_rfl) (show a.tmps.getD 134 undef = _ from facts_at hp 15 134 (by kernel_rfl))), ?_⟩
                  have h5 : a.tmps.getD 5 undef = .pointer (some ⟨S, 0, none⟩) := (ho 5 (by kernel_rfl)).trans rfl
                  unfold Oper.wp
                  go_simp
                  exact Stepped.at (v := .pointer (some ⟨S, 0, none⟩)) (by first | rfl | simp) hd (Below.refl _ _) rfl
                · intro a wx hb hd hs ho hp
                  refine Or.inl ⟨wanted_yes rfl (yielded_at (k := 15) (d := 134) (by kernel_rfl) (show a.tmps.getD 134 undef = _ from facts_at hp 15 134 (by kernel_rfl))), ?_⟩
                  have h8 : a.tmps.getD 8 undef = .pointer (some ⟨V, 0, none⟩) := (ho 8 (by kernel_rfl)).trans rfl
                  unfold Oper.wp
                  go_simp
                  exact Stepped.at (v := .pointer (some ⟨V, 0, none⟩)) (by first | rfl | simp) hd (Below.refl _ _) rfl
                · intro a wx hb hd hs ho hp
                  refine Or.inl ⟨wanted_yes rfl (yielded_at (k := 15) (d := 134) (by kernel_rfl) (show a.tmps.getD 134 undef = _ from facts_at hp 15 134 (by kernel_rfl))), ?_⟩
                  have h135 : a.tmps.getD 135 undef = .pointer (some ⟨S, 0, none⟩) := facts_at hp 16 135 (by kernel_rfl)
                  have h136 : a.tmps.getD 136 undef = .pointer (some ⟨V, 0, none⟩) := facts_at hp 17 136 (by kernel_rfl)
                  unfold Oper.wp
                  go_simp
                  refine (equal_any w4.heap.size wv.heap.size S V k1 k5 A A true wx (HS6.out.below hb) (HC6.out.below hb) ⟨fun _ => ⟨rfl, fun _ h => h⟩, fun _ => rfl⟩).mono ?_
                  rintro e w9 ⟨rfl, hb9⟩
                  exact Stepped.at (v := .bool true) rfl hd (hb9) rfl
                · intro a wx hb hd hs ho hp
                  refine Or.inl ⟨wanted_yes rfl (yielded_at (k := 15) (d := 134) (by kernel_rfl) (show a.tmps.getD 134 undef = _ from facts_at hp 15 134 (by kernel_rfl))), ?_⟩
                  have h14 : a.tmps.getD 14 undef = .bool false := (ho 14 (by kernel_rfl)).trans rfl
                  unfold Oper.wp
                  go_simp
                  exact Stepped.at (v := .bool false) (by first | rfl | simp) hd (Below.refl _ _) rfl
                · intro a wx hb hd hs ho hp
                  refine Or.inl ⟨wanted_yes rfl (yielded_at (k := 15) (d := 134) (by kernel_rfl) (show a.tmps.getD 134 undef = _ from facts_at hp 15 134 (by kernel_rfl))), ?_⟩
                  have h138 : a.tmps.getD 138 undef = .bool false := facts_at hp 19 138 (by kernel_rfl)
                  unfold Oper.wp
                  go_simp
                  exact Stepped.at (v := .bool true) (by first | rfl | simp) hd (Below.refl _ _) rfl
                · intro a wx hb hd hs ho hp
                  refine Or.inl ⟨wanted_yes rfl (yielded_at (k := 15) (d := 134) (by kernel_rfl) (show a.tmps.getD 134 undef = _ from facts_at hp 15 134 (by kernel_rfl))), ?_⟩
                  have h137 : a.tmps.getD 137 undef = .bool true := facts_at hp 18 137 (by kernel_rfl)
                  have h139 : a.tmps.getD 139 undef = .bool true := facts_at hp 20 139 (by kernel_rfl)
                  unfold Oper.wp
                  go_simp
                  exact Stepped.at (v := .bool true) (by first | rfl | simp) hd (Below.refl _ _) rfl
                · intro a wx hb hd hs ho hp
                  refine Or.inl ⟨rfl, ?_⟩
                  have h134 : a.tmps.getD 134 undef = .bool true := facts_at hp 15 134 (by kernel_rfl)
                  have h140 : a.tmps.getD 140 undef = .bool true := facts_at hp 21 140 (by kernel_rfl)
                  unfold Oper.wp
                  go_simp
                  exact Stepped.at (v := .bool true) (by first | rfl | simp) hd (Below.refl _ _) rfl
                · intro a wx hb hd hs ho hp
                  refine Or.inl ⟨rfl, ?_⟩
                  have h141 : a.tmps.getD 141 undef = .bool true := facts_at hp 22 141 (by kernel_rfl)
                  unfold Oper.wp
                  go_simp
                  exact Stepped.at (v := .bool true) (by first | rfl | simp) hd (Below.refl _ _) rfl
                · intro a wx hb hd hs ho hp
                  refine Or.inl ⟨wanted_yes rfl (yielded_at (k := 23) (d := 142) (by kernel_rfl) (show a.tmps.getD 142 undef = _ from facts_at hp 23 142 (by kernel_rfl))), ?_⟩
                  have h6 : a.tmps.getD 6 undef = .pointer (some ⟨U, 0, none⟩) := (ho 6 (by kernel_rfl)).trans rfl
                  unfold Oper.wp
                  go_simp
                  exact Stepped.at (v := .pointer (some ⟨U, 0, none⟩)) (by first | rfl | simp) hd (Below.refl _ _) rfl
                · intro a wx hb hd hs ho hp
                  refine Or.inl ⟨wanted_yes rfl (yielded_at (k := 23) (d := 142) (by kernel_rfl) (show a.tmps.getD 142 undef = _ from facts_at hp 23 142 (by kernel_rfl))), ?_⟩
                  have h8 : a.tmps.getD 8 undef = .pointer (some ⟨V, 0, none⟩) := (ho 8 (by kernel_rfl)).trans rfl
                  unfold Oper.wp
                  go_simp
                  exact Stepped.at (v := .pointer (some ⟨V, 0, none⟩)) (by first | rfl | simp) hd (Below.refl _ _) rfl
                · intro a wx hb hd hs ho hp
                  refine Or.inl ⟨wanted_yes rfl (yielded_at (k := 23) (d := 142) (by kernel_rfl) (show a.tmps.getD 142 undef = _ from facts_at hp 23 142 (by kernel_rfl))), ?_⟩
                  have h143 : a.tmps.getD 143 undef = .pointer (some ⟨U, 0, none⟩) := facts_at hp 24 143 (by kernel_rfl)
                  have h144 : a.tmps.getD 144 undef = .pointer (some ⟨V, 0, none⟩) := facts_at hp 25 144 (by kernel_rfl)
                  unfold Oper.wp
                  go_simp
                  refine (equal_any w4.heap.size wv.heap.size U V k2 k5 M A true wx (HU6.out.below hb) (HC6.out.below hb) ⟨fun _ => ⟨HJ.out.1.symm, HJ.out.2.2⟩, fun _ => rfl⟩).mono ?_
                  rintro e w9 ⟨rfl, hb9⟩
                  exact Stepped.at (v := .bool true) rfl hd (hb9) rfl
                · intro a wx hb hd hs ho hp
                  refine Or.inl ⟨wanted_yes rfl (yielded_at (k := 23) (d := 142) (by kernel_rfl) (show a.tmps.getD 142 undef = _ from facts_at hp 23 142 (by kernel_rfl))), ?_⟩
                  have h14 : a.tmps.getD 14 undef = .bool false := (ho 14 (by kernel_rfl)).trans rfl
                  unfold Oper.wp
                  go_simp
                  exact Stepped.at (v := .bool false) (by first | rfl | simp) hd (Below.refl _ _) rfl
                · intro a wx hb hd hs ho hp
                  refine Or.inl ⟨wanted_yes rfl (yielded_at (k := 23) (d := 142) (by kernel_rfl) (show a.tmps.getD 142 undef = _ from facts_at hp 23 142 (by kernel_rfl))), ?_⟩
                  have h146 : a.tmps.getD 146 undef = .bool false := facts_at hp 27 146 (by kernel_rfl)
                  unfold Oper.wp
                  go_simp
                  exact Stepped.at (v := .bool true) (by first | rfl | simp) hd (Below.refl _ _) rfl
                · intro a wx hb hd hs ho hp
                  refine Or.inl ⟨wanted_yes rfl (yielded_at (k := 23) (d := 142) (by kernel_rfl) (show a.tmps.getD 142 undef = _ from facts_at hp 23 142 (by kernel_rfl))), ?_⟩
                  have h145 : a.tmps.getD 145 undef = .bool true := facts_at hp 26 145 (by kernel_rfl)
                  have h147 : a.tmps.getD 147 undef = .bool true := facts_at hp 28 147 (by kernel_rfl)
                  unfold Oper.wp
                  go_simp
                  exact Stepped.at (v := .bool true) (by first | rfl | simp) hd (Below.refl _ _) rfl
                · intro a wx hb hd hs ho hp
                  refine Or.inl ⟨rfl, ?_⟩
                  have h142 : a.tmps.getD 142 undef = .bool true := facts_at hp 23 142 (by kernel_rfl)
                  have h148 : a.tmps.getD 148 undef = .bool true := facts_at hp 29 148 (by kernel_rfl)
                  unfold Oper.wp
                  go_simp
                  exact Stepped.at (v := .bool true) (by first | rfl | simp) hd (Below.refl _ _) rfl
                · intro a wx hb hd hs ho hp
                  refine Or.inl ⟨rfl, ?_⟩
                  have h149 : a.tmps.getD 149 undef = .bool true := facts_at hp 30 149 (by kernel_rfl)
                  unfold Oper.wp
                  go_simp
                  exact Stepped.at (v := .bool true) (by first | rfl | simp) hd (Below.refl _ _) rfl
              intro ac W17 hJ
              obtain ⟨u119, f119⟩ : ∃ u, ac.tmps.getD 119 undef = u := ⟨_, rfl⟩
              obtain ⟨u120, f120⟩ : ∃ u, ac.tmps.getD 120 undef = u := ⟨_, rfl⟩
              obtain ⟨u121, f121⟩ : ∃ u, ac.tmps.getD 121 undef = u := ⟨_, rfl⟩
              obtain ⟨u122, f122⟩ : ∃ u, ac.tmps.getD 122 undef = u := ⟨_, rfl⟩
              obtain ⟨u123, f123⟩ : ∃ u, ac.tmps.getD 123 undef = u := ⟨_, rfl⟩
              obtain ⟨u124, f124⟩ : ∃ u, ac.tmps.getD 124 undef = u := ⟨_, rfl⟩
              obtain ⟨u125, f125⟩ : ∃ u, ac.tmps.getD 125 undef = u := ⟨_, rfl⟩
              obtain ⟨u126, f126⟩ : ∃ u, ac.tmps.getD 126 undef = u := ⟨_, rfl⟩
              obtain ⟨u127, f127⟩ : ∃ u, ac.tmps.getD 127 undef = u := ⟨_, rfl⟩
              obtain ⟨u128, f128⟩ : ∃ u, ac.tmps.getD 128 undef = u := ⟨_, rfl⟩
              obtain ⟨u129, f129⟩ : ∃ u, ac.tmps.getD 129 undef = u := ⟨_, rfl⟩
              obtain ⟨u130, f130⟩ : ∃ u, ac.tmps.getD 130 undef = u := ⟨_, rfl⟩
              obtain ⟨u131, f131⟩ : ∃ u, ac.tmps.getD 131 undef = u := ⟨_, rfl⟩
              obtain ⟨u132, f132⟩ : ∃ u, ac.tmps.getD 132 undef = u := ⟨_, rfl⟩
              obtain ⟨u133, f133⟩ : ∃ u, ac.tmps.getD 133 undef = u := ⟨_, rfl⟩
              obtain ⟨u134, f134⟩ : ∃ u, ac.tmps.getD 134 undef = u := ⟨_, rfl⟩
              obtain ⟨u135, f135⟩ : ∃ u, ac.tmps.getD 135 undef = u := ⟨_, rfl⟩
              obtain ⟨u136, f136⟩ : ∃ u, ac.tmps.getD 136 undef = u := ⟨_, rfl⟩
              obtain ⟨u137, f137⟩ : ∃ u, ac.tmps.getD 137 undef = u := ⟨_, rfl⟩
              obtain ⟨u138, f138⟩ : ∃ u, ac.tmps.getD 138 undef = u := ⟨_, rfl⟩
              obtain ⟨u139, f139⟩ : ∃ u, ac.tmps.getD 139 undef = u := ⟨_, rfl⟩
              obtain ⟨u140, f140⟩ : ∃ u, ac.tmps.getD 140 undef = u := ⟨_, rfl⟩
              obtain ⟨u141, f141⟩ : ∃ u, ac.tmps.getD 141 undef = u := ⟨_, rfl⟩
              obtain ⟨u142, f142⟩ : ∃ u, ac.tmps.getD 142 undef = u := ⟨_, rfl⟩
              obtain ⟨u143, f143⟩ : ∃ u, ac.tmps.getD 143 undef = u := ⟨_, rfl⟩
              obtain ⟨u144, f144⟩ : ∃ u, ac.tmps.getD 144 undef = u := ⟨_, rfl⟩
              obtain ⟨u145, f145⟩ : ∃ u, ac.tmps.getD 145 undef = u := ⟨_, rfl⟩
              obtain ⟨u146, f146⟩ : ∃ u, ac.tmps.getD 146 undef = u := ⟨_, rfl⟩
              obtain ⟨u147, f147⟩ : ∃ u, ac.tmps.getD 147 undef = u := ⟨_, rfl⟩
              obtain ⟨u148, f148⟩ : ∃ u, ac.tmps.getD 148 undef = u := ⟨_, rfl⟩
              obtain ⟨u149, f149⟩ : ∃ u, ac.tmps.getD 149 undef = u := ⟨_, rfl⟩
              have f4 : ac.tmps.getD 4 undef = .bool true := hJ.at_end 31 4 (by kernel_rfl)
              have hBelow := hJ.below
              obtain ⟨TT, DD⟩ := ac
              obtain rfl : DD = [] := hJ.defers
              have hE := slots_merge [false, false, false, false, true, false, false, false, false, false, false, false, false, false, false, false, false, false, false, false, false, false, false, false, false, false, false, false, false, false, false, false, false, false, false, false, false, false, false, false, false, false, false, false, false, false, false, false, false, false, false, false, false, false, false, false, false, false, false, false, false, false, false, false, false, false, false, false, false, false, false, false, false, false, false, false, false, false, false, false, false, false, false, false, false, false, false, false, false, false, false, false, false, false, false, false, false, false, false, false, false, false, false, false, false, false, false, false, false, false, false, false, false, false, false, false, false, false, false, true, true, true, true, true, true, true, true, true, true, true, true, true, true, true, true, true, true, true, true, true, true, true, true, true, true, true, true, true, true, true] 150 hJ.tmps rfl (by kernel_rfl) hJ.outer
              simp only [mergeFrom, Nat.zero_add, Nat.reduceAdd, f119, f120, f121, f122, f123, f124, f125, f126, f127, f128, f129, f130, f131, f132, f133, f134, f135, f136, f137, f138, f139, f140, f141, f142, f143, f144, f145, f146, f147, f148, f149, f4] at hE
              clear hst hJ f119 f120 f121 f122 f123 f124 f125 f126 f127 f128 f129 f130 f131 f132 f133 f134 f135 f136 f137 f138 f139 f140 f141 f142 f143 f144 f145 f146 f147 f148 f149 f4
              subst hE
              have HBZ := Lib.hid (below_then HBV.out (below_then HB6.out hBelow))
              clear hBelow
              go_wp2
              go_ret
              exact ⟨rfl, HBZ.out⟩
            · skip
              have HVA := Lib.hid (validA_q (p, us) _ _ true w13 (HXV.out.below HBQ.out) HCX.out hv)
              have HHA := Lib.hid (show ¬ (p, us) ∈ A from hin)
              have hr := addR_new hv hin (by have := HAL.out; omega)
              have HRR := Lib.hid hr
              have HVV := Lib.hid hv
              clear hr hv hin
              go_wp2_with (go_at_call 10; refine HVA.out.mono ?_)
              clear HVA
              rintro e w14 ⟨rfl, hb14⟩
              have HB14 := Lib.hid (below_then HB13.out hb14)
              clear hb14 d10 d11
              have d10 := cells_at (row_lat (below_then HB7.out HB14.out) HKV.out) 0 _ rfl
              have d11 := cells_at (row_lat (below_then HB7.out HB14.out) HKV.out) 1 _ rfl
              have HHS := Lib.hid (has_q w4.heap.size S k1 A (p, us) _ _ false w14 (HS.out.below HB14.out) (HXV.out.below (below_then HB7.out HB14.out)) HCX.out ⟨fun e => (by cases e), fun h => absurd h HHA.out⟩)
              go_wp2_with (go_at_call 17; refine HHS.out.mono ?_)
              clear HHS
              rintro e w15 ⟨rfl, hb15⟩
              have HB15 := Lib.hid (below_then HB14.out hb15)
              clear hb15 d10 d11
              have d10 := cells_at (row_lat (below_then HB7.out HB15.out) HKV.out) 0 _ rfl
              have d11 := cells_at (row_lat (below_then HB7.out HB15.out) HKV.out) 1 _ rfl
              have HAD := Lib.hid (add_b wv.heap.size V k3 A (p, us) _ _ true 0 (A ++ [(p, us)]) wv w15 (HV.out.below HB15.out) rfl (below_then HB7.out HB15.out) HXV.out HCX.out HRR.out.1 HRR.out.2)
              go_wp2_with (go_at_call 15; refine HAD.out.mono ?_)
              clear HAD d10 d11
              rintro e w16 ⟨rfl, k5, hI16, hb16⟩
              have HC6 := Lib.hid hI16
              have HB6 := Lib.hid ((below_then HB7.out HB15.out).trans hb16)
              have HS6 := Lib.hid (H2.out.s.below HB6.out)
              have HU6 := Lib.hid (H2.out.t.below HB6.out)
              have HX6 := Lib.hid (HXV.out.below HB6.out)
              have HK6 := Lib.hid (row_lat HB6.out HKV.out)
              have HLN := Lib.hid (show A.length ≠ (A ++ [(p, us)]).length from by rw [List.length_append, List.length_singleton]; omega)
              clear hI16 hb16 HB15 HB14
              go_wp2_with fail
              have hst := @FL_grow [fV (.bool true), fV (.bool true), fV (.bool true), fV (.bool true), fV (.pointer (some ⟨S, 0, none⟩)), fV (.agg #[.string p, .slice ax us.length cx]), fV (.bool false), fV (.agg #[.string p, .slice ax us.length cx]), fV (.bool true), fV (.bool true), fV (.bool true), fV (.bool false), fV (.bool false), fV (.bool true), fV (.bool true), fV (.bool true), fV (.pointer (some ⟨S, 0, none⟩)), fV (.pointer (some ⟨V, 0, none⟩)), fV (.bool false), fV (.bool true), fV (.bool false), fV (.bool true), fV (.bool true), fV (.bool true), fV (.pointer (some ⟨U, 0, none⟩)), fV (.pointer (some ⟨V, 0, none⟩)), fV (.bool false), fV (.bool true), fV (.bool false), fV (.bool true), fV (.bool true), fV (.bool true)] (by
                intro F hF
                simp only [List.mem_cons, List.not_mem_nil, or_false] at hF
                rcases hF with rfl | rfl | rfl | rfl | rfl | rfl | rfl | rfl | rfl | rfl | rfl | rfl | rfl | rfl | rfl | rfl | rfl | rfl | rfl | rfl | rfl | rfl | rfl | rfl | rfl | rfl | rfl | rfl | rfl | rfl | rfl | rfl <;> first | exact fV_stays _)
              refine wp_region_grow_orB (by kernel_rfl) (FL [fV (.bool true), fV (.bool true), fV (.bool true), fV (.bool true), fV (.pointer (some ⟨S, 0, none⟩)), fV (.agg #[.string p, .slice ax us.length cx]), fV (.bool false), fV (.agg #[.string p, .slice ax us.length cx]), fV (.bool true), fV (.bool true), fV (.bool true), fV (.bool false), fV (.bool false), fV (.bool true), fV (.bool true), fV (.bool true), fV (.pointer (some ⟨S, 0, none⟩)), fV (.pointer (some ⟨V, 0, none⟩)), fV (.bool false), fV (.bool true), fV (.bool false), fV (.bool true), fV (.bool true), fV (.bool true), fV (.pointer (some ⟨U, 0, none⟩)), fV (.pointer (some ⟨V, 0, none⟩)), fV (.bool false), fV (.bool true), fV (.bool false), fV (.bool true), fV (.bool true), fV (.bool true)]) hst (by kernel_rfl) (steps_or ?_) ?_
              · refine ⟨?_, ?_, ?_, ?_, ?_, ?_, ?_, ?_, ?_, ?_, ?_, ?_, ?_, ?_, ?_, ?_, ?_, ?_, ?_, ?_, ?_, ?_, ?_, ?_, ?_, ?_, ?_, ?_, ?_, ?_, ?_, ?_, trivial⟩
                · intro a wx hb hd hs ho hp
                  refine Or.inl ⟨rfl, ?_⟩
                  have h15 : a.tmps.getD 15 undef = .bool true := (ho 15 (by kernel_rfl)).trans rfl
                  unfold Oper.wp
                  go_simp
                  exact Stepped.at (v := .bool true) (by first | rfl | simp) hd (Below.refl _ _) rfl
                · intro a wx hb hd hs ho hp
                  refine Or.inl ⟨rfl, ?_⟩
                  have h14 : a.tmps.getD 14 undef = .bool true := (ho 14 (by kernel_rfl)).trans rfl
                  unfold Oper.wp
                  go_simp
                  exact Stepped.at (v := .bool true) (by first | rfl | simp) hd (Below.refl _ _) rfl
                · intro a wx hb hd hs ho hp
                  refine Or.inl ⟨rfl, ?_⟩
                  have h119 : a.tmps.getD 119 undef = .bool true := facts_at hp 0 119 (by kernel_rfl)
                  have h120 : a.tmps.getD 120 undef = .bool true := facts_at hp 1 120 (by kernel_rfl)
                  unfold Oper.wp
                  go_simp
                  exact Stepped.at (v := .bool true) (by first | rfl | simp) hd (Below.refl _ _) rfl
                · intro a wx hb hd hs ho hp
                  refine Or.inl ⟨rfl, ?_⟩
                  have h121 : a.tmps.getD 121 undef = .bool true := facts_at hp 2 121 (by kernel_rfl)
                  unfold Oper.wp
                  go_simp
                  exact Stepped.at (v := .bool true) (by first | rfl | simp) hd (Below.refl _ _) rfl
                · intro a wx hb hd hs ho hp
                  refine Or.inl ⟨wanted_yes rfl (yielded_at (k := 3) (d := 122) (by kernel_rfl) (show a.tmps.getD 122 undef = _ from facts_at hp 3 122 (by kernel_rfl))), ?_⟩
                  have h5 : a.tmps.getD 5 undef = .pointer (some ⟨S, 0, none⟩) := (ho 5 (by kernel_rfl)).trans rfl
                  unfold Oper.wp
                  go_simp
                  exact Stepped.at (v := .pointer (some ⟨S, 0, none⟩)) (by first | rfl | simp) hd (Below.refl _ _) rfl
                · intro a wx hb hd hs ho hp
                  refine Or.inl ⟨wanted_yes rfl (yielded_at (k := 3) (d := 122) (by kernel_rfl) (show a.tmps.getD 122 undef = _ from facts_at hp 3 122 (by kernel_rfl))), ?_⟩
                  have h3 : a.tmps.getD 3 undef = .pointer (some ⟨m, 0, none⟩) := (ho 3 (by kernel_rfl)).trans rfl
                  have hx := (hb.block (m) (Array.getElem?_eq_some_iff.1 HK6.out).1).trans HK6.out
                  have s3 := qslot_of (hs.trans (rfl : _ = 150)) (by decide) h3
                  have x0 := cells_at hx 0 _ rfl
                  have x1 := cells_at hx 1 _ rfl
                  unfold Oper.wp
                  go_simp
                  exact Stepped.at (v := .agg #[.string p, .slice ax us.length cx]) (by first | rfl | simp) hd (Below.refl _ _) rfl
                · intro a wx hb hd hs ho hp
                  refine Or.inl ⟨wanted_yes rfl (yielded_at (k := 3) (d := 122) (by kernel_rfl) (show a.tmps.getD 122 undef = _ from facts_at hp 3 122 (by kernel_rfl))), ?_⟩
                  have h123 : a.tmps.getD 123 undef = .pointer (some ⟨S, 0, none⟩) := facts_at hp 4 123 (by kernel_rfl)
                  have h124 : a.tmps.getD 124 undef = .agg #[.string p, .slice ax us.length cx] := facts_at hp 5 124 (by kernel_rfl)
                  unfold Oper.wp
                  go_simp
                  refine (has_q w4.heap.size S k1 A (p, us) _ _ false wx (HS6.out.below hb) (HX6.out.below hb) HCX.out ⟨fun e => (by cases e), fun h => absurd h HHA.out⟩).mono ?_
                  rintro e w9 ⟨rfl, hb9⟩
                  exact Stepped.at (v := .bool false) rfl hd (hb9) rfl
                · intro a wx hb hd hs ho hp
                  refine Or.inl ⟨wanted_yes rfl (yielded_at (k := 3) (d := 122) (by kernel_rfl) (show a.tmps.getD 122 undef = _ from facts_at hp 3 122 (by kernel_rfl))), ?_⟩
                  have h3 : a.tmps.getD 3 undef = .pointer (some ⟨m, 0, none⟩) := (ho 3 (by kernel_rfl)).trans rfl
                  have hx := (hb.block (m) (Array.getElem?_eq_some_iff.1 HK6.out).1).trans HK6.out
                  have s3 := qslot_of (hs.trans (rfl : _ = 150)) (by decide) h3
                  have x0 := cells_at hx 0 _ rfl
                  have x1 := cells_at hx 1 _ rfl
                  unfold Oper.wp
                  go_simp
                  exact Stepped.at (v := .agg #[.string p, .slice ax us.length cx]) (by first | rfl | simp) hd (Below.refl _ _) rfl
                · intro a wx hb hd hs ho hp
                  refine Or.inl ⟨wanted_yes rfl (yielded_at (k := 3) (d := 122) (by kernel_rfl) (show a.tmps.getD 122 undef = _ from facts_at hp 3 122 (by kernel_rfl))), ?_⟩
                  have h126 : a.tmps.getD 126 undef = .agg #[.string p, .slice ax us.length cx] := facts_at hp 7 126 (by kernel_rfl)
                  unfold Oper.wp
                  go_simp
                  refine (validA_q (p, us) _ _ true wx (HX6.out.below hb) HCX.out HVV.out).mono ?_
                  rintro e w9 ⟨rfl, hb9⟩
                  exact Stepped.at (v := .bool true) rfl hd (hb9) rfl
                · intro a wx hb hd hs ho hp
                  refine Or.inl ⟨wanted_yes rfl (yielded_at (k := 3) (d := 122) (by kernel_rfl) (show a.tmps.getD 122 undef = _ from facts_at hp 3 122 (by kernel_rfl))), ?_⟩
                  have h127 : a.tmps.getD 127 undef = .bool true := facts_at hp 8 127 (by kernel_rfl)
                  unfold Oper.wp
                  go_simp
                  exact Stepped.at (v := .bool true) (by first | rfl | simp) hd (Below.refl _ _) rfl
                · intro a wx hb hd hs ho hp
                  refine Or.inl ⟨wanted_yes rfl (yielded_at (k := 9) (d := 128) (by kernel_rfl) (show a.tmps.getD 128 undef = _ from facts_at hp 9 128 (by kernel_rfl))), ?_⟩
                  have h14 : a.tmps.getD 14 undef = .bool true := (ho 14 (by kernel_rfl)).trans rfl
                  unfold Oper.wp
                  go_simp
                  exact Stepped.at (v := .bool true) (by first | rfl | simp) hd (Below.refl _ _) rfl
                · intro a wx hb hd hs ho hp
                  refine Or.inl ⟨wanted_yes rfl (yielded_at (k := 9) (d := 128) (by kernel_rfl) (show a.tmps.getD 128 undef = _ from facts_at hp 9 128 (by kernel_rfl))), ?_⟩
                  have h129 : a.tmps.getD 129 undef = .bool true := facts_at hp 10 129 (by kernel_rfl)
                  unfold Oper.wp
                  go_simp
                  exact Stepped.at (v := .bool false) (by first | rfl | simp) hd (Below.refl _ _) rfl
                · intro a wx hb hd hs ho hp
                  refine Or.inl ⟨wanted_yes rfl (yielded_at (k := 3) (d := 122) (by kernel_rfl) (show a.tmps.getD 122 undef = _ from facts_at hp 3 122 (by kernel_rfl))), ?_⟩
                  have h128 : a.tmps.getD 128 undef = .bool true := facts_at hp 9 128 (by kernel_rfl)
                  have h130 : a.tmps.getD 130 undef = .bool false := facts_at hp 11 130 (by kernel_rfl)
                  unfold Oper.wp
                  go_simp
                  exact Stepped.at (v := .bool false) (by first | rfl | simp) hd (Below.refl _ _) rfl
                · intro a wx hb hd hs ho hp
                  refine Or.inl ⟨wanted_yes rfl (yielded_at (k := 3) (d := 122) (by kernel_rfl) (show a.tmps.getD 122 undef = _ from facts_at hp 3 122 (by kernel_rfl))), ?_⟩
                  have h125 : a.tmps.getD 125 undef = .bool false := facts_at hp 6 125 (by kernel_rfl)
                  have h131 : a.tmps.getD 131 undef = .bool false := facts_at hp 12 131 (by kernel_rfl)
                  unfold Oper.wp
                  go_simp
                  exact Stepped.at (v := .bool true) (by first | rfl | simp) hd (Below.refl _ _) rfl
                · intro a wx hb hd hs ho hp
                  refine Or.inl ⟨rfl, ?_⟩
                  have h122 : a.tmps.getD 122 undef = .bool true := facts_at hp 3 122 (by kernel_rfl)
                  have h132 : a.tmps.getD 132 undef = .bool true := facts_at hp 13 132 (by kernel_rfl)
                  unfold Oper.wp
                  go_simp
                  exact Stepped.at (v := .bool true) (by first | rfl | simp) hd (Below.refl _ _) rfl
                · intro a wx hb hd hs ho hp
                  refine Or.inl ⟨rfl, ?_⟩
                  have h133 : a.tmps.getD 133 undef = .bool true := facts_at hp 14 133 (by kernel_rfl)
                  unfold Oper.wp
                  go_simp
                  exact Stepped.at (v := .bool true) (by first | rfl | simp) hd (Below.refl _ _) rfl
                · intro a wx hb hd hs ho hp
                  refine Or.inl ⟨wanted_yes rfl (yielded_at (k := 15) (d := 134) (by kernel_rfl) (show a.tmps.getD 134 undef = _ from facts_at hp 15 134 (by kernel_rfl))), ?_⟩
                  have h5 : a.tmps.getD 5 undef = .pointer (some ⟨S, 0, none⟩) := (ho 5 (by kernel_rfl)).trans rfl
                  unfold Oper.wp
                  go_simp
                  exact Stepped.at (v := .pointer (some ⟨S, 0, none⟩)) (by first | rfl | simp) hd (Below.refl _ _) rfl
                · intro a wx hb hd hs ho hp
                  refine Or.inl ⟨wanted_yes rfl (yielded_at (k := 15) (d := 134) (by kernel_rfl) (show a.tmps.getD 134 undef = _ from facts_at hp 15 134 (by kernel_rfl))), ?_⟩
                  have h8 : a.tmps.getD 8 undef = .pointer (some ⟨V, 0, none⟩) := (ho 8 (by kernel_rfl)).trans rfl
                  unfold Oper.wp
                  go_simp
                  exact Stepped.at (v := .pointer (some ⟨V, 0, none⟩)) (by first | rfl | simp) hd (Below.refl _ _) rfl
                · intro a wx hb hd hs ho hp
                  refine Or.inl ⟨wanted_yes rfl (yielded_at (k := 15) (d := 134) (by kernel_rfl) (show a.tmps.getD 134 undef = _ from facts_at hp 15 134 (by kernel_rfl))), ?_⟩
                  have h135 : a.tmps.getD 135 undef = .pointer (some ⟨S, 0, none⟩) := facts_at hp 16 135 (by kernel_rfl)
                  have h136 : a.tmps.getD 136 undef = .pointer (some ⟨V, 0, none⟩) := facts_at hp 17 136 (by kernel_rfl)
                  unfold Oper.wp
                  go_simp
                  refine (equal_any w4.heap.size wv.heap.size S V k1 k5 A (A ++ [(p, us)]) false wx (HS6.out.below hb) (HC6.out.below hb) ⟨fun e => (by cases e), fun h => absurd h.1 HLN.out⟩).mono ?_
                  rintro e w9 ⟨rfl, hb9⟩
                  exact Stepped.at (v := .bool false) rfl hd (hb9) rfl
                · intro a wx hb hd hs ho hp
                  refine Or.inl ⟨wanted_yes rfl (yielded_at (k := 15) (d := 134) (by kernel_rfl) (show a.tmps.getD 134 undef = _ from facts_at hp 15 134 (by kernel_rfl))), ?_⟩
                  have h14 : a.tmps.getD 14 undef = .bool true := (ho 14 (by kernel_rfl)).trans rfl
                  unfold Oper.wp
                  go_simp
                  exact Stepped.at (v := .bool true) (by first | rfl | simp) hd (Below.refl _ _) rfl
                · intro a wx hb hd hs ho hp
                  refine Or.inl ⟨wanted_yes rfl (yielded_at (k := 15) (d := 134) (by kernel_rfl) (show a.tmps.getD 134 undef = _ from facts_at hp 15 134 (by kernel_rfl))), ?_⟩
                  have h138 : a.tmps.getD 138 undef = .bool true := facts_at hp 19 138 (by kernel_rfl)
                  unfold Oper.wp
                  go_simp
                  exact Stepped.at (v := .bool false) (by first | rfl | simp) hd (Below.refl _ _) rfl
                · intro a wx hb hd hs ho hp
                  refine Or.inl ⟨wanted_yes rfl (yielded_at (k := 15) (d := 134) (by kernel_rfl) (show a.tmps.getD 134 undef = _ from facts_at hp 15 134 (by kernel_rfl))), ?_⟩
                  have h137 : a.tmps.getD 137 undef = .bool false := facts_at hp 18 137 (by kernel_rfl)
                  have h139 : a.tmps.getD 139 undef = .bool false := facts_at hp 20 139 (by kernel_rfl)
                  unfold Oper.wp
                  go_simp
                  exact Stepped.at (v := .bool true) (by first | rfl | simp) hd (Below.refl _ _) rfl
                · intro a wx hb hd hs ho hp
                  refine Or.inl ⟨rfl, ?_⟩
                  have h134 : a.tmps.getD 134 undef = .bool true := facts_at hp 15 134 (by kernel_rfl)
                  have h140 : a.tmps.getD 140 undef = .bool true := facts_at hp 21 140 (by kernel_rfl)
                  unfold Oper.wp
                  go_simp
                  exact Stepped.at (v := .bool true) (by first | rfl | simp) hd (Below.refl _ _) rfl
                · intro a wx hb hd hs ho hp
                  refine Or.inl ⟨rfl, ?_⟩
                  have h141 : a.tmps.getD 141 undef = .bool true := facts_at hp 22 141 (by kernel_rfl)
                  unfold Oper.wp
                  go_simp
                  exact Stepped.at (v := .bool true) (by first | rfl | simp) hd (Below.refl _ _) rfl
                · intro a wx hb hd hs ho hp
                  refine Or.inl ⟨wanted_yes rfl (yielded_at (k := 23) (d := 142) (by kernel_rfl) (show a.tmps.getD 142 undef = _ from facts_at hp 23 142 (by kernel_rfl))), ?_⟩
                  have h6 : a.tmps.getD 6 undef = .pointer (some ⟨U, 0, none⟩) := (ho 6 (by kernel_rfl)).trans rfl
                  unfold Oper.wp
                  go_simp
                  exact Stepped.at (v := .pointer (some ⟨U, 0, none⟩)) (by first | rfl | simp) hd (Below.refl _ _) rfl
                · intro a wx hb hd hs ho hp
                  refine Or.inl ⟨wanted_yes rfl (yielded_at (k := 23) (d := 142) (by kernel_rfl) (show a.tmps.getD 142 undef = _ from facts_at hp 23 142 (by kernel_rfl))), ?_⟩
                  have h8 : a.tmps.getD 8 undef = .pointer (some ⟨V, 0, none⟩) := (ho 8 (by kernel_rfl)).trans rfl
                  unfold Oper.wp
                  go_simp
                  exact Stepped.at (v := .pointer (some ⟨V, 0, none⟩)) (by first | rfl | simp) hd (Below.refl _ _) rfl
                · intro a wx hb hd hs ho hp
                  refine Or.inl ⟨wanted_yes rfl (yielded_at (k := 23) (d := 142) (by kernel_rfl) (show a.tmps.getD 142 undef = _ from facts_at hp 23 142 (by kernel_rfl))), ?_⟩
                  have h143 : a.tmps.getD 143 undef = .pointer (some ⟨U, 0, none⟩) := facts_at hp 24 143 (by kernel_rfl)
                  have h144 : a.tmps.getD 144 undef = .pointer (some ⟨V, 0, none⟩) := facts_at hp 25 144 (by kernel_rfl)
                  unfold Oper.wp
                  go_simp
                  refine (equal_any w4.heap.size wv.heap.size U V k2 k5 M (A ++ [(p, us)]) false wx (HU6.out.below hb) (HC6.out.below hb) ⟨fun e => (by cases e), fun h => absurd (HJ.out.1.trans h.1) HLN.out⟩).mono ?_
                  rintro e w9 ⟨rfl, hb9⟩
                  exact Stepped.at (v := .bool false) rfl hd (hb9) rfl
                · intro a wx hb hd hs ho hp
                  refine Or.inl ⟨wanted_yes rfl (yielded_at (k := 23) (d := 142) (by kernel_rfl) (show a.tmps.getD 142 undef = _ from facts_at hp 23 142 (by kernel_rfl))), ?_⟩
                  have h14 : a.tmps.getD 14 undef = .bool true := (ho 14 (by kernel_rfl)).trans rfl
                  unfold Oper.wp
                  go_simp
                  exact Stepped.at (v := .bool true) (by first | rfl | simp) hd (Below.refl _ _) rfl
                · intro a wx hb hd hs ho hp
                  refine Or.inl ⟨wanted_yes rfl (yielded_at (k := 23) (d := 142) (by kernel_rfl) (show a.tmps.getD 142 undef = _ from facts_at hp 23 142 (by kernel_rfl))), ?_⟩
                  have h146 : a.tmps.getD 146 undef = .bool true := facts_at hp 27 146 (by kernel_rfl)
                  unfold Oper.wp
                  go_simp
                  exact Stepped.at (v := .bool false) (by first | rfl | simp) hd (Below.refl _ _) rfl
                · intro a wx hb hd hs ho hp
                  refine Or.inl ⟨wanted_yes rfl (yielded_at (k := 23) (d := 142) (by kernel_rfl) (show a.tmps.getD 142 undef = _ from facts_at hp 23 142 (by kernel_rfl))), ?_⟩
                  have h145 : a.tmps.getD 145 undef = .bool false := facts_at hp 26 145 (by kernel_rfl)
                  have h147 : a.tmps.getD 147 undef = .bool false := facts_at hp 28 147 (by kernel_rfl)
                  unfold Oper.wp
                  go_simp
                  exact Stepped.at (v := .bool true) (by first | rfl | simp) hd (Below.refl _ _) rfl
                · intro a wx hb hd hs ho hp
                  refine Or.inl ⟨rfl, ?_⟩
                  have h142 : a.tmps.getD 142 undef = .bool true := facts_at hp 23 142 (by kernel_rfl)
                  have h148 : a.tmps.getD 148 undef = .bool true := facts_at hp 29 148 (by kernel_rfl)
                  unfold Oper.wp
                  go_simp
                  exact Stepped.at (v := .bool true) (by first | rfl | simp) hd (Below.refl _ _) rfl
                · intro a wx hb hd hs ho hp
                  refine Or.inl ⟨rfl, ?_⟩
                  have h149 : a.tmps.getD 149 undef = .bool true := facts_at hp 30 149 (by kernel_rfl)
                  unfold Oper.wp
                  go_simp
                  exact Stepped.at (v := .bool true) (by first | rfl | simp) hd (Below.refl _ _) rfl
              intro ac W17 hJ
              obtain ⟨u119, f119⟩ : ∃ u, ac.tmps.getD 119 undef = u := ⟨_, rfl⟩
              obtain ⟨u120, f120⟩ : ∃ u, ac.tmps.getD 120 undef = u := ⟨_, rfl⟩
              obtain ⟨u121, f121⟩ : ∃ u, ac.tmps.getD 121 undef = u := ⟨_, rfl⟩
              obtain ⟨u122, f122⟩ : ∃ u, ac.tmps.getD 122 undef = u := ⟨_, rfl⟩
              obtain ⟨u123, f123⟩ : ∃ u, ac.tmps.getD 123 undef = u := ⟨_, rfl⟩
              obtain ⟨u124, f124⟩ : ∃ u, ac.tmps.getD 124 undef = u := ⟨_, rfl⟩
              obtain ⟨u125, f125⟩ : ∃ u, ac.tmps.getD 125 undef = u := ⟨_, rfl⟩
              obtain ⟨u126, f126⟩ : ∃ u, ac.tmps.getD 126 undef = u := ⟨_, rfl⟩
              obtain ⟨u127, f127⟩ : ∃ u, ac.tmps.getD 127 undef = u := ⟨_, rfl⟩
              obtain ⟨u128, f128⟩ : ∃ u, ac.tmps.getD 128 undef = u := ⟨_, rfl⟩
              obtain ⟨u129, f129⟩ : ∃ u, ac.tmps.getD 129 undef = u := ⟨_, rfl⟩
              obtain ⟨u130, f130⟩ : ∃ u, ac.tmps.getD 130 undef = u := ⟨_, rfl⟩
              obtain ⟨u131, f131⟩ : ∃ u, ac.tmps.getD 131 undef = u := ⟨_, rfl⟩
              obtain ⟨u132, f132⟩ : ∃ u, ac.tmps.getD 132 undef = u := ⟨_, rfl⟩
              obtain ⟨u133, f133⟩ : ∃ u, ac.tmps.getD 133 undef = u := ⟨_, rfl⟩
              obtain ⟨u134, f134⟩ : ∃ u, ac.tmps.getD 134 undef = u := ⟨_, rfl⟩
              obtain ⟨u135, f135⟩ : ∃ u, ac.tmps.getD 135 undef = u := ⟨_, rfl⟩
              obtain ⟨u136, f136⟩ : ∃ u, ac.tmps.getD 136 undef = u := ⟨_, rfl⟩
              obtain ⟨u137, f137⟩ : ∃ u, ac.tmps.getD 137 undef = u := ⟨_, rfl⟩
              obtain ⟨u138, f138⟩ : ∃ u, ac.tmps.getD 138 undef = u := ⟨_, rfl⟩
              obtain ⟨u139, f139⟩ : ∃ u, ac.tmps.getD 139 undef = u := ⟨_, rfl⟩
              obtain ⟨u140, f140⟩ : ∃ u, ac.tmps.getD 140 undef = u := ⟨_, rfl⟩
              obtain ⟨u141, f141⟩ : ∃ u, ac.tmps.getD 141 undef = u := ⟨_, rfl⟩
              obtain ⟨u142, f142⟩ : ∃ u, ac.tmps.getD 142 undef = u := ⟨_, rfl⟩
              obtain ⟨u143, f143⟩ : ∃ u, ac.tmps.getD 143 undef = u := ⟨_, rfl⟩
              obtain ⟨u144, f144⟩ : ∃ u, ac.tmps.getD 144 undef = u := ⟨_, rfl⟩
              obtain ⟨u145, f145⟩ : ∃ u, ac.tmps.getD 145 undef = u := ⟨_, rfl⟩
              obtain ⟨u146, f146⟩ : ∃ u, ac.tmps.getD 146 undef = u := ⟨_, rfl⟩
              obtain ⟨u147, f147⟩ : ∃ u, ac.tmps.getD 147 undef = u := ⟨_, rfl⟩
              obtain ⟨u148, f148⟩ : ∃ u, ac.tmps.getD 148 undef = u := ⟨_, rfl⟩
              obtain ⟨u149, f149⟩ : ∃ u, ac.tmps.getD 149 undef = u := ⟨_, rfl⟩
              have f4 : ac.tmps.getD 4 undef = .bool true := hJ.at_end 31 4 (by kernel_rfl)
              have hBelow := hJ.below
              obtain ⟨TT, DD⟩ := ac
              obtain rfl : DD = [] := hJ.defers
              have hE := slots_merge [false, false, false, false, true, false, false, false, false, false, false, false, false, false, false, false, false, false, false, false, false, false, false, false, false, false, false, false, false, false, false, false, false, false, false, false, false, false, false, false, false, false, false, false, false, false, false, false, false, false, false, false, false, false, false, false, false, false, false, false, false, false, false, false, false, false, false, false, false, false, false, false, false, false, false, false, false, false, false, false, false, false, false, false, false, false, false, false, false, false, false, false, false, false, false, false, false, false, false, false, false, false, false, false, false, false, false, false, false, false, false, false, false, false, false, false, false, false, false, true, true, true, true, true, true, true, true, true, true, true, true, true, true, true, true, true, true, true, true, true, true, true, true, true, true, true, true, true, true, true] 150 hJ.tmps rfl (by kernel_rfl) hJ.outer
              simp only [mergeFrom, Nat.zero_add, Nat.reduceAdd, f119, f120, f121, f122, f123, f124, f125, f126, f127, f128, f129, f130, f131, f132, f133, f134, f135, f136, f137, f138, f139, f140, f141, f142, f143, f144, f145, f146, f147, f148, f149, f4] at hE
              clear hst hJ f119 f120 f121 f122 f123 f124 f125 f126 f127 f128 f129 f130 f131 f132 f133 f134 f135 f136 f137 f138 f139 f140 f141 f142 f143 f144 f145 f146 f147 f148 f149 f4
              subst hE
              have HBZ := Lib.hid (below_then HBV.out (below_then HB6.out hBelow))
              clear hBelow
              go_wp2
              go_ret
              exact ⟨rfl, HBZ.out⟩
end Go.Proofs.YtcoieohbmkjpoaaGreatDoor
