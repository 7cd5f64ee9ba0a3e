/- StoreNone: its walk. -/
import Derived.Test.YtcoieohbmkjpoaaGreatDoorB1SH
import Derived.Test.YtcoieohbmkjpoaaGreatDoorB1SD
namespace Go.Proofs.YtcoieohbmkjpoaaGreatDoor
open Go.RowKit Go.Shelf Go.Maps
attribute [local go_sem] Oper.semAt_some

theorem row_on {w w' : World} {k : Nat} {o : Obj} (hb : Below w.heap.size w w') (h : w.heap[k]? = some o) : w'.heap[k]? = some o := (hb.block _ (Array.getElem?_eq_some_iff.1 h).1).trans h
def fEmp : VF := fun v _ => Emp v
theorem fEmp_stays : Stays fEmp := fun _ _ _ h _ => h
theorem add_q (B S : Nat) (lab : Lab) (L : List Ato) (x : Ato) (v0 v1 : Value) (w : World) (hI : StI w B lab S L) (hB : B ≤ w.heap.size) (hA : AtS (fun b => b < B) w v0 v1 x) (hc : cntA x ≤ 1000000) :
    Calls Tryz.prog 15 #[.pointer (some ⟨S, 0, none⟩), .agg #[v0, v1]] w fun e w' => e = .returned (.tuple #[.bool (addR L x).1, .int .i64 (addR L x).2]) ∧ ∃ lab', StI w' B lab' S (addL L x) ∧ (∀ b, b < w.heap.size → lab' b = lab b) ∧ Stp lab Own w w' ∧ Below B w w' := add_low B S lab L x v0 v1 w hI hB hA hc
def bNo : ByteArray := ⟨#[110, 111, 110, 101, 32, 111, 102, 32, 116, 104, 101, 115, 101]⟩
theorem plaNo (s : ByteArray) (hs : s.size ≤ maxLen) : PlaOk ((bNo, 1), (0 : Int), s) := ⟨⟨show bNo.size ≤ maxLen by decide, show 1 ≤ maxLen by decide⟩, show I64 0 by unfold I64; decide +kernel, hs⟩
theorem no_symbol : symbolB bNo = false := by decide +kernel
theorem filter_no (A : List Ato) (hA : ∀ x ∈ A, validA x = true) (k : Int) (s : ByteArray) : A.filter (qP ((bNo, 1), k, s)) = [] := by
  rw [List.filter_eq_nil_iff]
  intro x hx h
  have hv := hA x hx
  unfold qP places at h
  simp only [decide_eq_true_iff, List.mem_map, Prod.mk.injEq] at h
  obtain ⟨i, _, h1, _⟩ := h
  have e : x.1 = bNo := congrArg Prod.fst h1
  unfold validA at hv
  rw [e, no_symbol] at hv
  simp at hv
set_option maxRecDepth 100000 in
set_option maxHeartbeats 16000000 in
theorem none_any (x : Ato) (t : Tm) (n : Int) (a0 a1 c0 c1 c2 c3 : Value) (w : World) (hT : Tab10 w) (hx : AtS (fun b => b < w.heap.size) w a0 a1 x) (ht : IsTm w.heap.size w c0 c1 c2 c3 t) :
    Calls Tryz.prog 7 #[.agg #[a0, a1], .agg #[c0, c1, c2, c3], .int .i64 n] w fun e w' => e = .returned (.bool true) ∧ Below w.heap.size w w' := by
  obtain ⟨p, us⟩ := x
  obtain ⟨ax, cx, rfl, rfl⟩ := hx.shape
  obtain ⟨tk, tn, ts, ta, tl, tc, rfl, rfl, rfl, rfl⟩ := ht.cells4
  change Calls Tryz.prog 7 #[.agg #[.string p, .slice ax us.length cx], .agg #[.int .u8 tk, .int .i64 tn, .string ts, .slice ta tl tc], .int .i64 n] w _
  obtain ⟨W, hW⟩ : ∃ W, (w.alloc (.cells #[.string p, .slice ax us.length cx] 24)).alloc (.cells #[.int .u8 tk, .int .i64 tn, .string ts, .slice ta tl tc] 46) = W := ⟨_, rfl⟩
  obtain ⟨hb, k1, k2⟩ := alloc2 w (.cells #[.string p, .slice ax us.length cx] 24) (.cells #[.int .u8 tk, .int .i64 tn, .string ts, .slice ta tl tc] 46)
  rw [hW] at hb k1 k2
  have HX := Lib.hid (hx.below hb)
  have HTM := Lib.hid ((ht.below hb).mono hb.size)
  have HT := Lib.hid (hT.below hb)
  have HB := Lib.hid hb
  obtain ⟨m, hm⟩ : ∃ m, w.heap.size = m := ⟨_, rfl⟩
  have HK := Lib.hid (And.intro (hm ▸ k1) (hm ▸ k2))
  clear hx ht hT hb k1 k2
  go_enter Tryz.func7, Tryz.ntmps7
  refine wp_seq_k fun K0 hK0 => ?_
  have HK0 := Lib.hid hK0
  clear hK0
  go_wp2_with fail
  try rw [hW]
  try simp only [hm]
  clear hW
  refine HK0.out _ _ ?_
  clear HK0
  have HAW := Lib.hid (awake11_any W HT.out)
  go_wp2_with (go_at_call 9; refine HAW.out.mono ?_)
  clear HAW
  rintro e w1 ⟨rfl, hb1⟩
  have HB1 := Lib.hid hb1
  have d10 := cells_at (row_on hb1 HK.out.1) 0 _ rfl
  have d11 := cells_at (row_on hb1 HK.out.1) 1 _ rfl
  obtain ⟨W2, hW2⟩ : ∃ X, w1.alloc (.cells #[.string p, .slice ax us.length cx] 24) = X := ⟨_, rfl⟩
  have hb2 : Below w1.heap.size w1 W2 := by rw [← hW2]; exact (Below.refl _ _).alloc (Nat.le_refl _) _
  have hr2 : W2.heap[w1.heap.size]? = some (.cells #[.string p, .slice ax us.length cx] 24 (0, 0)) := by rw [← hW2]; exact World.alloc_heap_new _ _
  have hb02 := below_then hb1 hb2
  have hlst : LstR W2 (.slice (some ⟨w1.heap.size, 0, none⟩) 1 1) [(p, us)] := ⟨_, ⟨rfl, Or.inr ⟨w1.heap.size, 1, _, rfl, Nat.zero_le _, hr2, Nat.le_refl 1, by unfold maxLen; omega, rfl, rfl⟩⟩, ⟨_, _, _, rfl, HX.out.below hb02, rfl⟩⟩
  have HG := Lib.hid (great_any [(p, us)] _ W2 hlst.rd)
  have HB2 := Lib.hid hb02
  clear hb1 hb2 hr2 hb02 hlst HB1
  go_wp2_with (go_at_call 8; refine HG.out.mono ?_)
  clear HG hW2 d10 d11
  rintro e w3 ⟨b, rfl, hbf, hb3⟩
  have HB3 := Lib.hid (below_then HB2.out hb3)
  have HBF := Lib.hid hbf
  clear hbf hb3 HB2
  cases b with
  | true =>
    go_wp2
    go_ret
    exact ⟨rfl, below_then HB.out HB3.out⟩
  | false =>
  have hgl := HBF.out (by first | rfl | trivial)
  have HCX := Lib.hid (show cntA (p, us) ≤ 1000000 by have := hgl.2 (p, us) (by simp); omega)
  have d20 := cells_at (row_on HB3.out HK.out.2) 0 _ rfl
  have d21 := cells_at (row_on HB3.out HK.out.2) 1 _ rfl
  have d22 := cells_at (row_on HB3.out HK.out.2) 2 _ rfl
  have d23 := cells_at (row_on HB3.out HK.out.2) 3 _ rfl
  have HSZ := Lib.hid (sizeTerm_any t _ _ _ _ 2000 w3 ((HTM.out.below HB3.out).mono HB3.out.size) (by omega) (by omega))
  have hwh := sizeT_whole t 2000
  obtain ⟨z, hz⟩ : ∃ z, sizeT t 2000 = z := ⟨_, rfl⟩
  rw [hz] at HSZ hwh
  have HWH := Lib.hid hwh
  clear hgl HBF hwh hz
  by_cases hz2 : (2000 : Int) < z
  · go_wp2_with (go_at_call 28; refine HSZ.out.mono ?_; rintro e w4 ⟨rfl, hb4⟩; have HB4 := Lib.hid hb4; clear hb4)
    go_ret
    exact ⟨rfl, below_then HB.out (below_then HB3.out HB4.out)⟩
  have HCT := Lib.hid (show t.count ≤ 1000000 by have := HWH.out (by omega); omega)
  clear HWH
  go_wp2_with (first
    | (have _ := HB5.out; go_at_call 15; refine HADD.out.mono ?_; rintro e w6 ⟨rfl, lab3, hI3, _, _, hs3⟩; have HI6 := Lib.hid hI3; have HB6 := Lib.hid (below_then HB4.out (HB5'.out.trans hs3)); clear hI3 hs3)
    | (have _ := HB4.out; go_at_call 14; refine HN.out.mono ?_; rintro e w5 ⟨S, lab, rfl, hI, hb5⟩; have HB5 := Lib.hid (below_then HB4.out hb5); have d10 := cells_at (row_on HB5.out HK.out.1) 0 _ rfl; have d11 := cells_at (row_on HB5.out HK.out.1) 1 _ rfl; have HADD := Lib.hid (add_q w4.heap.size S lab [] (p, us) _ _ w5 hI hb5.size ((HX.out.below HB4.out).same (fun _ h => h) (fun b h => hb5.block b h)) HCX.out); have HB5' := Lib.hid hb5; clear hI hb5)
    | (go_at_call 28; refine HSZ.out.mono ?_; rintro e w4 ⟨rfl, hb4⟩; have HB4 := Lib.hid (below_then HB3.out hb4); have HN := Lib.hid (new_any w4 (HT.out.below HB4.out)); clear hb4))
  clear HSZ d20 d21 d22 d23 hz2 HB3 HN
  clear HADD d10 d11 HB5 HB5' HB4
  obtain ⟨A, hA⟩ : ∃ A, addL [] (p, us) = A := ⟨_, rfl⟩
  have hmem : validA (p, us) = true ↔ (p, us) ∈ A := by
    rw [← hA]
    unfold addL
    by_cases hv : validA (p, us) = true
    · rw [if_pos ⟨hv, by simp, by simp⟩]; simp [hv]
    · rw [if_neg (fun h => hv h.1)]; simp [hv]
  rw [hA] at HI6
  have HMEM := Lib.hid hmem
  clear hmem hA
  obtain ⟨W7, hW7⟩ : ∃ X, (w6.alloc (.cells #[.slice none 0 0, .map none, .map none, .map none, .pointer none] 59)).alloc (.cells #[.pointer none, .pointer (some ⟨w6.heap.size, 0, none⟩)] 31) = X := ⟨_, rfl⟩
  obtain ⟨hb7, k1, k2⟩ := alloc2 w6 (.cells #[.slice none 0 0, .map none, .map none, .map none, .pointer none] 59) (.cells #[.pointer none, .pointer (some ⟨w6.heap.size, 0, none⟩)] 31)
  rw [hW7] at hb7 k1 k2
  obtain ⟨q7, hq7⟩ : ∃ q, w6.heap.size = q := ⟨_, rfl⟩
  rw [hq7] at k1 k2
  have HZ := Lib.hid k1
  have HL7 := Lib.hid k2
  have HB7 := Lib.hid (below_then HB6.out hb7)
  have HI7 := Lib.hid (HI6.out.below hb7)
  clear k1 k2 hb7 HB6 HI6
  go_wp2_with fail
  try rw [hW7]
  try simp only [hq7]
  clear hW7 hq7
  go_loopw [10] (fun i wr => ∃ (j : Nat), j ≤ 2 ∧ i = .int .i64 j ∧ Below W7.heap.size W7 wr) (fun i _ => 2 - (intOf i).toNat)
  case atStart => exact ⟨0, by omega, by go_num, Below.refl _ _⟩
  case round =>
    obtain ⟨j, hj, rfl, hBr⟩ := hrel
    have HBR := Lib.hid (below_then HB7.out hBr)
    have HBK := Lib.hid hBr
    have HR1 := Lib.hid (row_on HBR.out HK.out.1)
    have HR2 := Lib.hid (row_on HBR.out HK.out.2)
    have HIR := Lib.hid (HI7.out.below hBr)
    have HXR := Lib.hid (HX.out.below HBR.out)
    have HTR := Lib.hid ((HTM.out.below HBR.out).mono HBR.out.size)
    have HTB := Lib.hid (HT.out.below HBR.out)
    by_cases hlt : j < 2
    · have hov : ∃ ov, wr.cell? ⟨q7 + 1, j, none⟩ = some (.pointer ov) ∧ NoSt wr (.pointer ov) := by
        have c0 := cells_at (row_on hBr HL7.out) 0 _ rfl
        have c1 := cells_at (row_on hBr HL7.out) 1 _ rfl
        have z4 := cells_at (row_on hBr HZ.out) 4 _ rfl
        rcases (show j = 0 ∨ j = 1 by omega) with rfl | rfl
        · exact ⟨none, c0, Or.inl rfl⟩
        · exact ⟨some ⟨q7, 0, none⟩, c1, Or.inr ⟨q7, rfl, z4⟩⟩
      obtain ⟨ov, hc, hno⟩ := hov
      have HNO := Lib.hid hno
      have d10 := cells_at HR1.out 0 _ rfl
      have d11 := cells_at HR1.out 1 _ rfl
      have i1 : (0 : Int) ≤ (j : Int) := by omega
      have i2 : (j : Int) < 2 := by omega
      obtain ⟨W8, hW8⟩ : ∃ X, wr.alloc (.cells #[.string p, .int .i64 us.length] 41) = X := ⟨_, rfl⟩
      have hb8 : Below wr.heap.size wr W8 := by rw [← hW8]; exact (Below.refl _ _).alloc (Nat.le_refl _) _
      have h8 : W8.heap[wr.heap.size]? = some (.cells #[.string p, .int .i64 us.length] 41 (0, 0)) := by rw [← hW8]; exact World.alloc_heap_new _ _
      obtain ⟨q8, hq8⟩ : ∃ q, wr.heap.size = q := ⟨_, rfl⟩
      have HB8 := Lib.hid hb8
      have H8 := Lib.hid (hq8 ▸ h8)
      have e10 := cells_at (row_on hb8 HR1.out) 0 _ rfl
      have e11 := cells_at (row_on hb8 HR1.out) 1 _ rfl
      have HADD := Lib.hid (add_no (p, us) (.pointer ov) _ _ W8 (HNO.out.below hb8) (HXR.out.below hb8))
      obtain ⟨wr', hwr'⟩ : ∃ X, X = wr := ⟨_, rfl⟩
      subst hwr'
      clear hBr hb8 h8 hno
      go_wp2_with (first
        | (have _ := HB9.out; go_at_call 19; refine HAT.out.mono ?_; rintro e w10 ⟨rfl, hb10⟩; have HB10 := Lib.hid (below_then HB9.out hb10); have H10 := Lib.hid (row_on hb10 H9.out); clear hb10)
        | (go_at_call 15; refine HADD.out.mono ?_; rintro e w9 ⟨rfl, hb9⟩; have HB9 := Lib.hid (below_then HB8.out hb9); have HAT := Lib.hid (at_no (.pointer ov) n w9 (HNO.out.below (below_then HB8.out hb9))); have H9 := Lib.hid (row_on hb9 H8.out); clear hb9 e10 e11))
      clear HADD HAT HB8 HB9 H8 H9 d10 d11 hc
      obtain ⟨W11, hW11⟩ : ∃ X, w10.alloc (.cells #[.string ⟨#[]⟩, .slice none 0 0] 24) = X := ⟨_, rfl⟩
      have hb11 : Below w10.heap.size w10 W11 := by rw [← hW11]; exact (Below.refl _ _).alloc (Nat.le_refl _) _
      have h11 : W11.heap[w10.heap.size]? = some (.cells #[.string ⟨#[]⟩, .slice none 0 0] 24 (0, 0)) := by rw [← hW11]; exact World.alloc_heap_new _ _
      obtain ⟨q11, hq11⟩ : ∃ q, w10.heap.size = q := ⟨_, rfl⟩
      rw [hq11] at h11
      have HZ11 := Lib.hid h11
      have HG11 := Lib.hid (row_on hb11 H10.out)
      have HW := Lib.hid (below_then HB10.out hb11)
      have HA11 := Lib.hid (row_on HW.out HR1.out)
      have HT11 := Lib.hid (row_on HW.out HR2.out)
      have HN11 := Lib.hid (HNO.out.below HW.out)
      have HI11 := Lib.hid (HIR.out.below HW.out)
      have HX11 := Lib.hid (HXR.out.below HW.out)
      have HTM11 := Lib.hid ((HTR.out.below HW.out).mono HW.out.size)
      have HTB11 := Lib.hid (HTB.out.below HW.out)
      clear hb11 h11 H10 HB10
      try rw [hW11]
      try simp only [hq11]
      try rw [hq8]
      clear hW11 hq11 hq8
      have hst := @FL_grow [fV (.bool false), fV (.bool false), fV (.int .i64 1), fV (.bool false), fV (.bool false), fV (.bool false), fV (.int .i64 1), fV (.bool false), fV (.bool false), fV (.bool false), fV (.agg #[.string ⟨#[]⟩, .slice none 0 0]), fV (.agg #[.string ⟨#[]⟩, .slice none 0 0]), fV (.bool true), fV (.bool false), fV (.bool false), fV (.bool false), fV (.pointer ov), fV (.agg #[.string p, .slice ax us.length cx]), fV (.bool false), fV (.bool false), fV (.bool false), fV (.pointer ov), fV (.int .i64 0), fV (.bool false), fV (.bool false), fV (.bool false), fV (.pointer ov), fEmp, fV (.int .i64 0), fV (.pointer ov), fV (.agg #[.string p, .int .i64 us.length]), fEmp, fV (.int .i64 0), fV (.int .i64 0), fV (.pointer ov), fV (.agg #[.string p, .int .i64 us.length]), fV (.int .i64 n), fV (.agg #[.int .u8 tk, .int .i64 tn, .string ts, .slice ta tl tc]), fEmp, fV (.int .i64 0), fV (.int .i64 0), fV (.pointer ov), fEmp, fV (.int .i64 0), fV (.int .i64 0), fV (.bool false), fV (.bool false), fV (.bool false), fV (.pointer ov), fV (.pointer none), fV (.bool false), fV (.bool false), fV (.bool false), fV (.pointer ov), fV (.pointer (some ⟨S, 0, none⟩)), fV (.bool false), fV (.bool false), fV (.bool false), fV (.pointer (some ⟨S, 0, none⟩)), fV (.pointer ov), fV (.bool false), fV (.bool false), fV (.bool false), fV (.pointer ov), fV (.pointer ov), fV (.bool false), fV (.bool false)] (by
        intro F hF
        simp only [List.mem_cons, List.not_mem_nil, or_false] at hF
        rcases hF with rfl | rfl | rfl | rfl | rfl | rfl | rfl | rfl | rfl | rfl | rfl | rfl | rfl | rfl | rfl | rfl | rfl | rfl | rfl | rfl | rfl | rfl | rfl | rfl | rfl | rfl | rfl | rfl | rfl | rfl | rfl | rfl | rfl | rfl | rfl | rfl | rfl | rfl | rfl | rfl | rfl | rfl | rfl | rfl | rfl | rfl | rfl | rfl | rfl | rfl | rfl | rfl | rfl | rfl | rfl | rfl | rfl | rfl | rfl | rfl | rfl | rfl | rfl | rfl | rfl | rfl | rfl <;> first | exact fV_stays _ | exact fEmp_stays | exact fEmp_stays | exact fEmp_stays | exact fEmp_stays)
      refine wp_region_grow_orB (by kernel_rfl) (FL [fV (.bool false), fV (.bool false), fV (.int .i64 1), fV (.bool false), fV (.bool false), fV (.bool false), fV (.int .i64 1), fV (.bool false), fV (.bool false), fV (.bool false), fV (.agg #[.string ⟨#[]⟩, .slice none 0 0]), fV (.agg #[.string ⟨#[]⟩, .slice none 0 0]), fV (.bool true), fV (.bool false), fV (.bool false), fV (.bool false), fV (.pointer ov), fV (.agg #[.string p, .slice ax us.length cx]), fV (.bool false), fV (.bool false), fV (.bool false), fV (.pointer ov), fV (.int .i64 0), fV (.bool false), fV (.bool false), fV (.bool false), fV (.pointer ov), fEmp, fV (.int .i64 0), fV (.pointer ov), fV (.agg #[.string p, .int .i64 us.length]), fEmp, fV (.int .i64 0), fV (.int .i64 0), fV (.pointer ov), fV (.agg #[.string p, .int .i64 us.length]), fV (.int .i64 n), fV (.agg #[.int .u8 tk, .int .i64 tn, .string ts, .slice ta tl tc]), fEmp, fV (.int .i64 0), fV (.int .i64 0), fV (.pointer ov), fEmp, fV (.int .i64 0), fV (.int .i64 0), fV (.bool false), fV (.bool false), fV (.bool false), fV (.pointer ov), fV (.pointer none), fV (.bool false), fV (.bool false), fV (.bool false), fV (.pointer ov), fV (.pointer (some ⟨S, 0, none⟩)), fV (.bool false), fV (.bool false), fV (.bool false), fV (.pointer (some ⟨S, 0, none⟩)), fV (.pointer ov), fV (.bool false), fV (.bool false), fV (.bool false), fV (.pointer ov), fV (.pointer ov), fV (.bool false), fV (.bool false)]) hst (by kernel_rfl) (steps_or ?_) ?_
      · refine ⟨?_, ?_, ?_, ?_, ?_, ?_, ?_, ?_, ?_, ?_, ?_, ?_, ?_, ?_, ?_, ?_, ?_, ?_, ?_, ?_, ?_, ?_, ?_, ?_, ?_, ?_, ?_, ?_, ?_, ?_, ?_, ?_, ?_, ?_, ?_, ?_, ?_, ?_, ?_, ?_, ?_, ?_, ?_, ?_, ?_, ?_, ?_, ?_, ?_, ?_, ?_, ?_, ?_, ?_, ?_, ?_, ?_, ?_, ?_, ?_, ?_, ?_, ?_, ?_, ?_, ?_, ?_, trivial⟩
        · intro a wx hb hd hs ho hp
          refine Or.inl ⟨rfl, ?_⟩
          have h13 : a.tmps.getD 13 undef = .bool false := (ho 13 (by kernel_rfl)).trans rfl
          unfold Oper.wp
          go_simp
          exact Stepped.at (v := .bool false) (by first | rfl | simp) hd (Below.refl _ _) rfl
        · intro a wx hb hd hs ho hp
          refine Or.inl ⟨rfl, ?_⟩
          have h61 : a.tmps.getD 61 undef = .bool false := facts_at hp 0 61 (by kernel_rfl)
          unfold Oper.wp
          go_simp
          exact Stepped.at (v := .bool false) (by first | rfl | simp) hd (Below.refl _ _) rfl
        · intro a wx hb hd hs ho hp
          refine Or.inl ⟨wanted_yes rfl (yielded_at (k := 1) (d := 62) (by kernel_rfl) (show a.tmps.getD 62 undef = _ from facts_at hp 1 62 (by kernel_rfl))), ?_⟩
          have h14 : a.tmps.getD 14 undef = .int .i64 1 := (ho 14 (by kernel_rfl)).trans rfl
          unfold Oper.wp
          go_simp
          exact Stepped.at (v := .int .i64 1) (by first | rfl | simp) hd (Below.refl _ _) rfl
        · intro a wx hb hd hs ho hp
          refine Or.inl ⟨wanted_yes rfl (yielded_at (k := 1) (d := 62) (by kernel_rfl) (show a.tmps.getD 62 undef = _ from facts_at hp 1 62 (by kernel_rfl))), ?_⟩
          have h63 : a.tmps.getD 63 undef = .int .i64 1 := facts_at hp 2 63 (by kernel_rfl)
          unfold Oper.wp
          go_simp
          exact Stepped.at (v := .bool false) (by first | rfl | simp) hd (Below.refl _ _) rfl
        · intro a wx hb hd hs ho hp
          refine Or.inl ⟨rfl, ?_⟩
          have h62 : a.tmps.getD 62 undef = .bool false := facts_at hp 1 62 (by kernel_rfl)
          have h64 : a.tmps.getD 64 undef = .bool false := facts_at hp 3 64 (by kernel_rfl)
          unfold Oper.wp
          go_simp
          exact Stepped.at (v := .bool false) (by first | rfl | simp) hd (Below.refl _ _) rfl
        · intro a wx hb hd hs ho hp
          refine Or.inl ⟨rfl, ?_⟩
          have h65 : a.tmps.getD 65 undef = .bool false := facts_at hp 4 65 (by kernel_rfl)
          unfold Oper.wp
          go_simp
          exact Stepped.at (v := .bool false) (by first | rfl | simp) hd (Below.refl _ _) rfl
        · intro a wx hb hd hs ho hp
          refine Or.inl ⟨wanted_yes rfl (yielded_at (k := 5) (d := 66) (by kernel_rfl) (show a.tmps.getD 66 undef = _ from facts_at hp 5 66 (by kernel_rfl))), ?_⟩
          have h16 : a.tmps.getD 16 undef = .int .i64 1 := (ho 16 (by kernel_rfl)).trans rfl
          unfold Oper.wp
          go_simp
          exact Stepped.at (v := .int .i64 1) (by first | rfl | simp) hd (Below.refl _ _) rfl
        · intro a wx hb hd hs ho hp
          refine Or.inl ⟨wanted_yes rfl (yielded_at (k := 5) (d := 66) (by kernel_rfl) (show a.tmps.getD 66 undef = _ from facts_at hp 5 66 (by kernel_rfl))), ?_⟩
          have h67 : a.tmps.getD 67 undef = .int .i64 1 := facts_at hp 6 67 (by kernel_rfl)
          unfold Oper.wp
          go_simp
          exact Stepped.at (v := .bool false) (by first | rfl | simp) hd (Below.refl _ _) rfl
        · intro a wx hb hd hs ho hp
          refine Or.inl ⟨rfl, ?_⟩
          have h66 : a.tmps.getD 66 undef = .bool false := facts_at hp 5 66 (by kernel_rfl)
          have h68 : a.tmps.getD 68 undef = .bool false := facts_at hp 7 68 (by kernel_rfl)
          unfold Oper.wp
          go_simp
          exact Stepped.at (v := .bool false) (by first | rfl | simp) hd (Below.refl _ _) rfl
        · intro a wx hb hd hs ho hp
          refine Or.inl ⟨rfl, ?_⟩
          have h69 : a.tmps.getD 69 undef = .bool false := facts_at hp 8 69 (by kernel_rfl)
          unfold Oper.wp
          go_simp
          exact Stepped.at (v := .bool false) (by first | rfl | simp) hd (Below.refl _ _) rfl
        · intro a wx hb hd hs ho hp
          refine Or.inl ⟨wanted_yes rfl (yielded_at (k := 9) (d := 70) (by kernel_rfl) (show a.tmps.getD 70 undef = _ from facts_at hp 9 70 (by kernel_rfl))), ?_⟩
          have h15 : a.tmps.getD 15 undef = .pointer (some ⟨q11, 0, none⟩) := (ho 15 (by kernel_rfl)).trans rfl
          have hx := (hb.block (q11) (Array.getElem?_eq_some_iff.1 HZ11.out).1).trans HZ11.out
          have s15 := qslot_of (hs.trans (rfl : _ = 147)) (by decide) h15
          have x0 := cells_at hx 0 _ rfl
          have x1 := cells_at hx 1 _ rfl
          unfold Oper.wp
          go_simp
          exact Stepped.at (v := .agg #[.string ⟨#[]⟩, .slice none 0 0]) (by first | rfl | simp) hd (Below.refl _ _) rfl
        · intro a wx hb hd hs ho hp
          refine Or.inl ⟨wanted_yes rfl (yielded_at (k := 9) (d := 70) (by kernel_rfl) (show a.tmps.getD 70 undef = _ from facts_at hp 9 70 (by kernel_rfl))), ?_⟩
          unfold Oper.wp
          go_simp
          exact Stepped.at (v := .agg #[.string ⟨#[]⟩, .slice none 0 0]) (by first | rfl | simp) hd (Below.refl _ _) rfl
        · intro a wx hb hd hs ho hp
          refine Or.inl ⟨wanted_yes rfl (yielded_at (k := 9) (d := 70) (by kernel_rfl) (show a.tmps.getD 70 undef = _ from facts_at hp 9 70 (by kernel_rfl))), ?_⟩
          have h71 : a.tmps.getD 71 undef = .agg #[.string ⟨#[]⟩, .slice none 0 0] := facts_at hp 10 71 (by kernel_rfl)
          have h72 : a.tmps.getD 72 undef = .agg #[.string ⟨#[]⟩, .slice none 0 0] := facts_at hp 11 72 (by kernel_rfl)
          unfold Oper.wp
          go_simp
          refine (sameAtom_self (⟨#[]⟩, []) _ _ _ _ wx (atNone _ _ _ (by decide)) (atNone _ _ _ (by decide))).mono ?_
          rintro e w9 ⟨rfl, hb9⟩
          exact Stepped.at (v := .bool true) rfl hd (hb9) rfl
        · intro a wx hb hd hs ho hp
          refine Or.inl ⟨wanted_yes rfl (yielded_at (k := 9) (d := 70) (by kernel_rfl) (show a.tmps.getD 70 undef = _ from facts_at hp 9 70 (by kernel_rfl))), ?_⟩
          have h73 : a.tmps.getD 73 undef = .bool true := facts_at hp 12 73 (by kernel_rfl)
          unfold Oper.wp
          go_simp
          exact Stepped.at (v := .bool false) (by first | rfl | simp) hd (Below.refl _ _) rfl
        · intro a wx hb hd hs ho hp
          refine Or.inl ⟨rfl, ?_⟩
          have h70 : a.tmps.getD 70 undef = .bool false := facts_at hp 9 70 (by kernel_rfl)
          have h74 : a.tmps.getD 74 undef = .bool false := facts_at hp 13 74 (by kernel_rfl)
          unfold Oper.wp
          go_simp
          exact Stepped.at (v := .bool false) (by first | rfl | simp) hd (Below.refl _ _) rfl
        · intro a wx hb hd hs ho hp
          refine Or.inl ⟨rfl, ?_⟩
          have h75 : a.tmps.getD 75 undef = .bool false := facts_at hp 14 75 (by kernel_rfl)
          unfold Oper.wp
          go_simp
          exact Stepped.at (v := .bool false) (by first | rfl | simp) hd (Below.refl _ _) rfl
        · intro a wx hb hd hs ho hp
          refine Or.inl ⟨wanted_yes rfl (yielded_at (k := 15) (d := 76) (by kernel_rfl) (show a.tmps.getD 76 undef = _ from facts_at hp 15 76 (by kernel_rfl))), ?_⟩
          have h11 : a.tmps.getD 11 undef = .pointer ov := (ho 11 (by kernel_rfl)).trans rfl
          unfold Oper.wp
          go_simp
          exact Stepped.at (v := .pointer ov) (by first | rfl | simp) hd (Below.refl _ _) rfl
        · intro a wx hb hd hs ho hp
          refine Or.inl ⟨wanted_yes rfl (yielded_at (k := 15) (d := 76) (by kernel_rfl) (show a.tmps.getD 76 undef = _ from facts_at hp 15 76 (by kernel_rfl))), ?_⟩
          have h3 : a.tmps.getD 3 undef = .pointer (some ⟨m, 0, none⟩) := (ho 3 (by kernel_rfl)).trans rfl
          have hx := (hb.block (m) (Array.getElem?_eq_some_iff.1 HA11.out).1).trans HA11.out
          have s3 := qslot_of (hs.trans (rfl : _ = 147)) (by decide) h3
          have x0 := cells_at hx 0 _ rfl
          have x1 := cells_at hx 1 _ rfl
          unfold Oper.wp
          go_simp
          exact Stepped.at (v := .agg #[.string p, .slice ax us.length cx]) (by first | rfl | simp) hd (Below.refl _ _) rfl
        · intro a wx hb hd hs ho hp
          refine Or.inl ⟨wanted_yes rfl (yielded_at (k := 15) (d := 76) (by kernel_rfl) (show a.tmps.getD 76 undef = _ from facts_at hp 15 76 (by kernel_rfl))), ?_⟩
          have h77 : a.tmps.getD 77 undef = .pointer ov := facts_at hp 16 77 (by kernel_rfl)
          have h78 : a.tmps.getD 78 undef = .agg #[.string p, .slice ax us.length cx] := facts_at hp 17 78 (by kernel_rfl)
          unfold Oper.wp
          go_simp
          refine (has_no (p, us) _ _ _ wx (HN11.out.below hb) (HX11.out.below hb) HCX.out (HTB11.out.below hb)).mono ?_
          rintro e w9 ⟨rfl, hb9⟩
          exact Stepped.at (v := .bool false) rfl hd (hb9) rfl
        · intro a wx hb hd hs ho hp
          refine Or.inl ⟨rfl, ?_⟩
          have h76 : a.tmps.getD 76 undef = .bool false := facts_at hp 15 76 (by kernel_rfl)
          have h79 : a.tmps.getD 79 undef = .bool false := facts_at hp 18 79 (by kernel_rfl)
          unfold Oper.wp
          go_simp
          exact Stepped.at (v := .bool false) (by first | rfl | simp) hd (Below.refl _ _) rfl
        · intro a wx hb hd hs ho hp
          refine Or.inl ⟨rfl, ?_⟩
          have h80 : a.tmps.getD 80 undef = .bool false := facts_at hp 19 80 (by kernel_rfl)
          unfold Oper.wp
          go_simp
          exact Stepped.at (v := .bool false) (by first | rfl | simp) hd (Below.refl _ _) rfl
        · intro a wx hb hd hs ho hp
          refine Or.inl ⟨wanted_yes rfl (yielded_at (k := 20) (d := 81) (by kernel_rfl) (show a.tmps.getD 81 undef = _ from facts_at hp 20 81 (by kernel_rfl))), ?_⟩
          have h11 : a.tmps.getD 11 undef = .pointer ov := (ho 11 (by kernel_rfl)).trans rfl
          unfold Oper.wp
          go_simp
          exact Stepped.at (v := .pointer ov) (by first | rfl | simp) hd (Below.refl _ _) rfl
        · intro a wx hb hd hs ho hp
          refine Or.inl ⟨wanted_yes rfl (yielded_at (k := 20) (d := 81) (by kernel_rfl) (show a.tmps.getD 81 undef = _ from facts_at hp 20 81 (by kernel_rfl))), ?_⟩
          have h82 : a.tmps.getD 82 undef = .pointer ov := facts_at hp 21 82 (by kernel_rfl)
          unfold Oper.wp
          go_simp
          refine (len_no _ wx (HN11.out.below hb)).mono ?_
          rintro e w9 ⟨rfl, hb9⟩
          exact Stepped.at (v := .int .i64 0) rfl hd (hb9) rfl
        · intro a wx hb hd hs ho hp
          refine Or.inl ⟨wanted_yes rfl (yielded_at (k := 20) (d := 81) (by kernel_rfl) (show a.tmps.getD 81 undef = _ from facts_at hp 20 81 (by kernel_rfl))), ?_⟩
          have h83 : a.tmps.getD 83 undef = .int .i64 0 := facts_at hp 22 83 (by kernel_rfl)
          unfold Oper.wp
          go_simp
          exact Stepped.at (v := .bool false) (by first | rfl | simp) hd (Below.refl _ _) rfl
        · intro a wx hb hd hs ho hp
          refine Or.inl ⟨rfl, ?_⟩
          have h81 : a.tmps.getD 81 undef = .bool false := facts_at hp 20 81 (by kernel_rfl)
          have h84 : a.tmps.getD 84 undef = .bool false := facts_at hp 23 84 (by kernel_rfl)
          unfold Oper.wp
          go_simp
          exact Stepped.at (v := .bool false) (by first | rfl | simp) hd (Below.refl _ _) rfl
        · intro a wx hb hd hs ho hp
          refine Or.inl ⟨rfl, ?_⟩
          have h85 : a.tmps.getD 85 undef = .bool false := facts_at hp 24 85 (by kernel_rfl)
          unfold Oper.wp
          go_simp
          exact Stepped.at (v := .bool false) (by first | rfl | simp) hd (Below.refl _ _) rfl
        · intro a wx hb hd hs ho hp
          refine Or.inl ⟨wanted_yes rfl (yielded_at (k := 25) (d := 86) (by kernel_rfl) (show a.tmps.getD 86 undef = _ from facts_at hp 25 86 (by kernel_rfl))), ?_⟩
          have h11 : a.tmps.getD 11 undef = .pointer ov := (ho 11 (by kernel_rfl)).trans rfl
          unfold Oper.wp
          go_simp
          exact Stepped.at (v := .pointer ov) (by first | rfl | simp) hd (Below.refl _ _) rfl
        · intro a wx hb hd hs ho hp
          refine Or.inl ⟨wanted_yes rfl (yielded_at (k := 25) (d := 86) (by kernel_rfl) (show a.tmps.getD 86 undef = _ from facts_at hp 25 86 (by kernel_rfl))), ?_⟩
          have h87 : a.tmps.getD 87 undef = .pointer ov := facts_at hp 26 87 (by kernel_rfl)
          unfold Oper.wp
          go_simp
          refine (sigs_no _ wx (HN11.out.below hb)).mono ?_
          rintro e wy ⟨v, rfl, hv, hb9⟩
          exact Stepped.at (v := v) rfl hd hb9 hv
        · intro a wx hb hd hs ho hp
          refine Or.inl ⟨wanted_yes rfl (yielded_at (k := 25) (d := 86) (by kernel_rfl) (show a.tmps.getD 86 undef = _ from facts_at hp 25 86 (by kernel_rfl))), ?_⟩
          have e88 := facts_at hp 27 88 (by kernel_rfl)
          obtain ⟨ga, gc, eq88⟩ := e88
          have h88 : a.tmps.getD 88 undef = .slice ga 0 gc := eq88
          clear eq88
          unfold Oper.wp
          go_simp
          exact Stepped.at (v := .int .i64 0) (by first | rfl | simp) hd (Below.refl _ _) rfl
        · intro a wx hb hd hs ho hp
          refine Or.inl ⟨wanted_yes rfl (yielded_at (k := 25) (d := 86) (by kernel_rfl) (show a.tmps.getD 86 undef = _ from facts_at hp 25 86 (by kernel_rfl))), ?_⟩
          have h11 : a.tmps.getD 11 undef = .pointer ov := (ho 11 (by kernel_rfl)).trans rfl
          unfold Oper.wp
          go_simp
          exact Stepped.at (v := .pointer ov) (by first | rfl | simp) hd (Below.refl _ _) rfl
        · intro a wx hb hd hs ho hp
          refine Or.inl ⟨wanted_yes rfl (yielded_at (k := 25) (d := 86) (by kernel_rfl) (show a.tmps.getD 86 undef = _ from facts_at hp 25 86 (by kernel_rfl))), ?_⟩
          have h12 : a.tmps.getD 12 undef = .pointer (some ⟨q8, 0, none⟩) := (ho 12 (by kernel_rfl)).trans rfl
          have hx := (hb.block (q8) (Array.getElem?_eq_some_iff.1 HG11.out).1).trans HG11.out
          have s12 := qslot_of (hs.trans (rfl : _ = 147)) (by decide) h12
          have x0 := cells_at hx 0 _ rfl
          have x1 := cells_at hx 1 _ rfl
          unfold Oper.wp
          go_simp
          exact Stepped.at (v := .agg #[.string p, .int .i64 us.length]) (by first | rfl | simp) hd (Below.refl _ _) rfl
        · intro a wx hb hd hs ho hp
          refine Or.inl ⟨wanted_yes rfl (yielded_at (k := 25) (d := 86) (by kernel_rfl) (show a.tmps.getD 86 undef = _ from facts_at hp 25 86 (by kernel_rfl))), ?_⟩
          have h90 : a.tmps.getD 90 undef = .pointer ov := facts_at hp 29 90 (by kernel_rfl)
          have h91 : a.tmps.getD 91 undef = .agg #[.string p, .int .i64 us.length] := facts_at hp 30 91 (by kernel_rfl)
          unfold Oper.wp
          go_simp
          refine (all_no _ (p, us.length) wx (HN11.out.below hb)).mono ?_
          rintro e wy ⟨v, rfl, hv, hb9⟩
          exact Stepped.at (v := v) rfl hd hb9 hv
        · intro a wx hb hd hs ho hp
          refine Or.inl ⟨wanted_yes rfl (yielded_at (k := 25) (d := 86) (by kernel_rfl) (show a.tmps.getD 86 undef = _ from facts_at hp 25 86 (by kernel_rfl))), ?_⟩
          have e92 := facts_at hp 31 92 (by kernel_rfl)
          obtain ⟨ga, gc, eq92⟩ := e92
          have h92 : a.tmps.getD 92 undef = .slice ga 0 gc := eq92
          clear eq92
          unfold Oper.wp
          go_simp
          exact Stepped.at (v := .int .i64 0) (by first | rfl | simp) hd (Below.refl _ _) rfl
        · intro a wx hb hd hs ho hp
          refine Or.inl ⟨wanted_yes rfl (yielded_at (k := 25) (d := 86) (by kernel_rfl) (show a.tmps.getD 86 undef = _ from facts_at hp 25 86 (by kernel_rfl))), ?_⟩
          have h89 : a.tmps.getD 89 undef = .int .i64 0 := facts_at hp 28 89 (by kernel_rfl)
          have h93 : a.tmps.getD 93 undef = .int .i64 0 := facts_at hp 32 93 (by kernel_rfl)
          unfold Oper.wp
          go_simp
          exact Stepped.at (v := .int .i64 0) (by first | rfl | simp) hd (Below.refl _ _) rfl
        · intro a wx hb hd hs ho hp
          refine Or.inl ⟨wanted_yes rfl (yielded_at (k := 25) (d := 86) (by kernel_rfl) (show a.tmps.getD 86 undef = _ from facts_at hp 25 86 (by kernel_rfl))), ?_⟩
          have h11 : a.tmps.getD 11 undef = .pointer ov := (ho 11 (by kernel_rfl)).trans rfl
          unfold Oper.wp
          go_simp
          exact Stepped.at (v := .pointer ov) (by first | rfl | simp) hd (Below.refl _ _) rfl
        · intro a wx hb hd hs ho hp
          refine Or.inl ⟨wanted_yes rfl (yielded_at (k := 25) (d := 86) (by kernel_rfl) (show a.tmps.getD 86 undef = _ from facts_at hp 25 86 (by kernel_rfl))), ?_⟩
          have h12 : a.tmps.getD 12 undef = .pointer (some ⟨q8, 0, none⟩) := (ho 12 (by kernel_rfl)).trans rfl
          have hx := (hb.block (q8) (Array.getElem?_eq_some_iff.1 HG11.out).1).trans HG11.out
          have s12 := qslot_of (hs.trans (rfl : _ = 147)) (by decide) h12
          have x0 := cells_at hx 0 _ rfl
          have x1 := cells_at hx 1 _ rfl
          unfold Oper.wp
          go_simp
          exact Stepped.at (v := .agg #[.string p, .int .i64 us.length]) (by first | rfl | simp) hd (Below.refl _ _) rfl
        · intro a wx hb hd hs ho hp
          refine Or.inl ⟨wanted_yes rfl (yielded_at (k := 25) (d := 86) (by kernel_rfl) (show a.tmps.getD 86 undef = _ from facts_at hp 25 86 (by kernel_rfl))), ?_⟩
          have h2 : a.tmps.getD 2 undef = .int .i64 n := (ho 2 (by kernel_rfl)).trans rfl
          unfold Oper.wp
          go_simp
          exact Stepped.at (v := .int .i64 n) (by first | rfl | simp) hd (Below.refl _ _) rfl
        · intro a wx hb hd hs ho hp
          refine Or.inl ⟨wanted_yes rfl (yielded_at (k := 25) (d := 86) (by kernel_rfl) (show a.tmps.getD 86 undef = _ from facts_at hp 25 86 (by kernel_rfl))), ?_⟩
          have h4 : a.tmps.getD 4 undef = .pointer (some ⟨m + 1, 0, none⟩) := (ho 4 (by kernel_rfl)).trans rfl
          have hx := (hb.block (m + 1) (Array.getElem?_eq_some_iff.1 HT11.out).1).trans HT11.out
          have s4 := qslot_of (hs.trans (rfl : _ = 147)) (by decide) h4
          have x0 := cells_at hx 0 _ rfl
          have x1 := cells_at hx 1 _ rfl
          have x2 := cells_at hx 2 _ rfl
          have x3 := cells_at hx 3 _ rfl
          unfold Oper.wp
          go_simp
          exact Stepped.at (v := .agg #[.int .u8 tk, .int .i64 tn, .string ts, .slice ta tl tc]) (by first | rfl | simp) hd (Below.refl _ _) rfl
        · intro a wx hb hd hs ho hp
          refine Or.inl ⟨wanted_yes rfl (yielded_at (k := 25) (d := 86) (by kernel_rfl) (show a.tmps.getD 86 undef = _ from facts_at hp 25 86 (by kernel_rfl))), ?_⟩
          have h95 : a.tmps.getD 95 undef = .pointer ov := facts_at hp 34 95 (by kernel_rfl)
          have h96 : a.tmps.getD 96 undef = .agg #[.string p, .int .i64 us.length] := facts_at hp 35 96 (by kernel_rfl)
          have h97 : a.tmps.getD 97 undef = .int .i64 n := facts_at hp 36 97 (by kernel_rfl)
          have h98 : a.tmps.getD 98 undef = .agg #[.int .u8 tk, .int .i64 tn, .string ts, .slice ta tl tc] := facts_at hp 37 98 (by kernel_rfl)
          unfold Oper.wp
          go_simp
          refine (find_no _ (p, us.length) n t _ _ _ _ wx (HN11.out.below hb) ((HTM11.out.below hb).mono hb.size) HCT.out (HTB11.out.below hb)).mono ?_
          rintro e wy ⟨v, rfl, hv, hb9⟩
          exact Stepped.at (v := v) rfl hd hb9 hv
        · intro a wx hb hd hs ho hp
          refine Or.inl ⟨wanted_yes rfl (yielded_at (k := 25) (d := 86) (by kernel_rfl) (show a.tmps.getD 86 undef = _ from facts_at hp 25 86 (by kernel_rfl))), ?_⟩
          have e99 := facts_at hp 38 99 (by kernel_rfl)
          obtain ⟨ga, gc, eq99⟩ := e99
          have h99 : a.tmps.getD 99 undef = .slice ga 0 gc := eq99
          clear eq99
          unfold Oper.wp
          go_simp
          exact Stepped.at (v := .int .i64 0) (by first | rfl | simp) hd (Below.refl _ _) rfl
        · intro a wx hb hd hs ho hp
          refine Or.inl ⟨wanted_yes rfl (yielded_at (k := 25) (d := 86) (by kernel_rfl) (show a.tmps.getD 86 undef = _ from facts_at hp 25 86 (by kernel_rfl))), ?_⟩
          have h94 : a.tmps.getD 94 undef = .int .i64 0 := facts_at hp 33 94 (by kernel_rfl)
          have h100 : a.tmps.getD 100 undef = .int .i64 0 := facts_at hp 39 100 (by kernel_rfl)
          unfold Oper.wp
          go_simp
          exact Stepped.at (v := .int .i64 0) (by first | rfl | simp) hd (Below.refl _ _) rfl
        · intro a wx hb hd hs ho hp
          refine Or.inl ⟨wanted_yes rfl (yielded_at (k := 25) (d := 86) (by kernel_rfl) (show a.tmps.getD 86 undef = _ from facts_at hp 25 86 (by kernel_rfl))), ?_⟩
          have h11 : a.tmps.getD 11 undef = .pointer ov := (ho 11 (by kernel_rfl)).trans rfl
          unfold Oper.wp
          go_simp
          exact Stepped.at (v := .pointer ov) (by first | rfl | simp) hd (Below.refl _ _) rfl
        · intro a wx hb hd hs ho hp
          refine Or.inl ⟨wanted_yes rfl (yielded_at (k := 25) (d := 86) (by kernel_rfl) (show a.tmps.getD 86 undef = _ from facts_at hp 25 86 (by kernel_rfl))), ?_⟩
          have h102 : a.tmps.getD 102 undef = .pointer ov := facts_at hp 41 102 (by kernel_rfl)
          unfold Oper.wp
          go_simp
          refine (sorted_no _ wx (HN11.out.below hb)).mono ?_
          rintro e wy ⟨v, rfl, hv, hb9⟩
          exact Stepped.at (v := v) rfl hd hb9 hv
        · intro a wx hb hd hs ho hp
          refine Or.inl ⟨wanted_yes rfl (yielded_at (k := 25) (d := 86) (by kernel_rfl) (show a.tmps.getD 86 undef = _ from facts_at hp 25 86 (by kernel_rfl))), ?_⟩
          have e103 := facts_at hp 42 103 (by kernel_rfl)
          obtain ⟨ga, gc, eq103⟩ := e103
          have h103 : a.tmps.getD 103 undef = .slice ga 0 gc := eq103
          clear eq103
          unfold Oper.wp
          go_simp
          exact Stepped.at (v := .int .i64 0) (by first | rfl | simp) hd (Below.refl _ _) rfl
        · intro a wx hb hd hs ho hp
          refine Or.inl ⟨wanted_yes rfl (yielded_at (k := 25) (d := 86) (by kernel_rfl) (show a.tmps.getD 86 undef = _ from facts_at hp 25 86 (by kernel_rfl))), ?_⟩
          have h101 : a.tmps.getD 101 undef = .int .i64 0 := facts_at hp 40 101 (by kernel_rfl)
          have h104 : a.tmps.getD 104 undef = .int .i64 0 := facts_at hp 43 104 (by kernel_rfl)
          unfold Oper.wp
          go_simp
          exact Stepped.at (v := .int .i64 0) (by first | rfl | simp) hd (Below.refl _ _) rfl
        · intro a wx hb hd hs ho hp
          refine Or.inl ⟨wanted_yes rfl (yielded_at (k := 25) (d := 86) (by kernel_rfl) (show a.tmps.getD 86 undef = _ from facts_at hp 25 86 (by kernel_rfl))), ?_⟩
          have h105 : a.tmps.getD 105 undef = .int .i64 0 := facts_at hp 44 105 (by kernel_rfl)
          unfold Oper.wp
          go_simp
          exact Stepped.at (v := .bool false) (by first | rfl | simp) hd (Below.refl _ _) rfl
        · intro a wx hb hd hs ho hp
          refine Or.inl ⟨rfl, ?_⟩
          have h86 : a.tmps.getD 86 undef = .bool false := facts_at hp 25 86 (by kernel_rfl)
          have h106 : a.tmps.getD 106 undef = .bool false := facts_at hp 45 106 (by kernel_rfl)
          unfold Oper.wp
          go_simp
          exact Stepped.at (v := .bool false) (by first | rfl | simp) hd (Below.refl _ _) rfl
        · intro a wx hb hd hs ho hp
          refine Or.inl ⟨rfl, ?_⟩
          have h107 : a.tmps.getD 107 undef = .bool false := facts_at hp 46 107 (by kernel_rfl)
          unfold Oper.wp
          go_simp
          exact Stepped.at (v := .bool false) (by first | rfl | simp) hd (Below.refl _ _) rfl
        · intro a wx hb hd hs ho hp
          refine Or.inl ⟨wanted_yes rfl (yielded_at (k := 47) (d := 108) (by kernel_rfl) (show a.tmps.getD 108 undef = _ from facts_at hp 47 108 (by kernel_rfl))), ?_⟩
          have h11 : a.tmps.getD 11 undef = .pointer ov := (ho 11 (by kernel_rfl)).trans rfl
          unfold Oper.wp
          go_simp
          exact Stepped.at (v := .pointer ov) (by first | rfl | simp) hd (Below.refl _ _) rfl
        · intro a wx hb hd hs ho hp
          refine Or.inl ⟨wanted_yes rfl (yielded_at (k := 47) (d := 108) (by kernel_rfl) (show a.tmps.getD 108 undef = _ from facts_at hp 47 108 (by kernel_rfl))), ?_⟩
          have h109 : a.tmps.getD 109 undef = .pointer ov := facts_at hp 48 109 (by kernel_rfl)
          unfold Oper.wp
          go_simp
          refine (copy_no _ wx (HN11.out.below hb)).mono ?_
          rintro e w9 ⟨rfl, hb9⟩
          exact Stepped.at (v := .pointer none) rfl hd (hb9) rfl
        · intro a wx hb hd hs ho hp
          refine Or.inl ⟨wanted_yes rfl (yielded_at (k := 47) (d := 108) (by kernel_rfl) (show a.tmps.getD 108 undef = _ from facts_at hp 47 108 (by kernel_rfl))), ?_⟩
          have h110 : a.tmps.getD 110 undef = .pointer none := facts_at hp 49 110 (by kernel_rfl)
          unfold Oper.wp
          go_simp
          exact Stepped.at (v := .bool false) (by first | rfl | simp) hd (Below.refl _ _) rfl
        · intro a wx hb hd hs ho hp
          refine Or.inl ⟨rfl, ?_⟩
          have h108 : a.tmps.getD 108 undef = .bool false := facts_at hp 47 108 (by kernel_rfl)
          have h111 : a.tmps.getD 111 undef = .bool false := facts_at hp 50 111 (by kernel_rfl)
          unfold Oper.wp
          go_simp
          exact Stepped.at (v := .bool false) (by first | rfl | simp) hd (Below.refl _ _) rfl
        · intro a wx hb hd hs ho hp
          refine Or.inl ⟨rfl, ?_⟩
          have h112 : a.tmps.getD 112 undef = .bool false := facts_at hp 51 112 (by kernel_rfl)
          unfold Oper.wp
          go_simp
          exact Stepped.at (v := .bool false) (by first | rfl | simp) hd (Below.refl _ _) rfl
        · intro a wx hb hd hs ho hp
          refine Or.inl ⟨wanted_yes rfl (yielded_at (k := 52) (d := 113) (by kernel_rfl) (show a.tmps.getD 113 undef = _ from facts_at hp 52 113 (by kernel_rfl))), ?_⟩
          have h11 : a.tmps.getD 11 undef = .pointer ov := (ho 11 (by kernel_rfl)).trans rfl
          unfold Oper.wp
          go_simp
          exact Stepped.at (v := .pointer ov) (by first | rfl | simp) hd (Below.refl _ _) rfl
        · intro a wx hb hd hs ho hp
          refine Or.inl ⟨wanted_yes rfl (yielded_at (k := 52) (d := 113) (by kernel_rfl) (show a.tmps.getD 113 undef = _ from facts_at hp 52 113 (by kernel_rfl))), ?_⟩
          have h7 : a.tmps.getD 7 undef = .pointer (some ⟨S, 0, none⟩) := (ho 7 (by kernel_rfl)).trans rfl
          unfold Oper.wp
          go_simp
          exact Stepped.at (v := .pointer (some ⟨S, 0, none⟩)) (by first | rfl | simp) hd (Below.refl _ _) rfl
        · intro a wx hb hd hs ho hp
          refine Or.inl ⟨wanted_yes rfl (yielded_at (k := 52) (d := 113) (by kernel_rfl) (show a.tmps.getD 113 undef = _ from facts_at hp 52 113 (by kernel_rfl))), ?_⟩
          have h114 : a.tmps.getD 114 undef = .pointer ov := facts_at hp 53 114 (by kernel_rfl)
          have h115 : a.tmps.getD 115 undef = .pointer (some ⟨S, 0, none⟩) := facts_at hp 54 115 (by kernel_rfl)
          unfold Oper.wp
          go_simp
          refine (equal_no1 _ _ wx (HN11.out.below hb)).mono ?_
          rintro e w9 ⟨rfl, hb9⟩
          exact Stepped.at (v := .bool false) rfl hd (hb9) rfl
        · intro a wx hb hd hs ho hp
          refine Or.inl ⟨rfl, ?_⟩
          have h113 : a.tmps.getD 113 undef = .bool false := facts_at hp 52 113 (by kernel_rfl)
          have h116 : a.tmps.getD 116 undef = .bool false := facts_at hp 55 116 (by kernel_rfl)
          unfold Oper.wp
          go_simp
          exact Stepped.at (v := .bool false) (by first | rfl | simp) hd (Below.refl _ _) rfl
        · intro a wx hb hd hs ho hp
          refine Or.inl ⟨rfl, ?_⟩
          have h117 : a.tmps.getD 117 undef = .bool false := facts_at hp 56 117 (by kernel_rfl)
          unfold Oper.wp
          go_simp
          exact Stepped.at (v := .bool false) (by first | rfl | simp) hd (Below.refl _ _) rfl
        · intro a wx hb hd hs ho hp
          refine Or.inl ⟨wanted_yes rfl (yielded_at (k := 57) (d := 118) (by kernel_rfl) (show a.tmps.getD 118 undef = _ from facts_at hp 57 118 (by kernel_rfl))), ?_⟩
          have h7 : a.tmps.getD 7 undef = .pointer (some ⟨S, 0, none⟩) := (ho 7 (by kernel_rfl)).trans rfl
          unfold Oper.wp
          go_simp
          exact Stepped.at (v := .pointer (some ⟨S, 0, none⟩)) (by first | rfl | simp) hd (Below.refl _ _) rfl
        · intro a wx hb hd hs ho hp
          refine Or.inl ⟨wanted_yes rfl (yielded_at (k := 57) (d := 118) (by kernel_rfl) (show a.tmps.getD 118 undef = _ from facts_at hp 57 118 (by kernel_rfl))), ?_⟩
          have h11 : a.tmps.getD 11 undef = .pointer ov := (ho 11 (by kernel_rfl)).trans rfl
          unfold Oper.wp
          go_simp
          exact Stepped.at (v := .pointer ov) (by first | rfl | simp) hd (Below.refl _ _) rfl
        · intro a wx hb hd hs ho hp
          refine Or.inl ⟨wanted_yes rfl (yielded_at (k := 57) (d := 118) (by kernel_rfl) (show a.tmps.getD 118 undef = _ from facts_at hp 57 118 (by kernel_rfl))), ?_⟩
          have h119 : a.tmps.getD 119 undef = .pointer (some ⟨S, 0, none⟩) := facts_at hp 58 119 (by kernel_rfl)
          have h120 : a.tmps.getD 120 undef = .pointer ov := facts_at hp 59 120 (by kernel_rfl)
          obtain ⟨la, lc, m1, m2, m3, hrow, _⟩ := (HI11.out.below hb).row
          unfold Oper.wp
          go_simp
          refine (equal_no2 S _ _ _ _ _ wx (HN11.out.below hb) hrow).mono ?_
          rintro e w9 ⟨rfl, hb9⟩
          exact Stepped.at (v := .bool false) rfl hd (hb9) rfl
        · intro a wx hb hd hs ho hp
          refine Or.inl ⟨rfl, ?_⟩
          have h118 : a.tmps.getD 118 undef = .bool false := facts_at hp 57 118 (by kernel_rfl)
          have h121 : a.tmps.getD 121 undef = .bool false := facts_at hp 60 121 (by kernel_rfl)
          unfold Oper.wp
          go_simp
          exact Stepped.at (v := .bool false) (by first | rfl | simp) hd (Below.refl _ _) rfl
        · intro a wx hb hd hs ho hp
          refine Or.inl ⟨rfl, ?_⟩
          have h122 : a.tmps.getD 122 undef = .bool false := facts_at hp 61 122 (by kernel_rfl)
          unfold Oper.wp
          go_simp
          exact Stepped.at (v := .bool false) (by first | rfl | simp) hd (Below.refl _ _) rfl
        · intro a wx hb hd hs ho hp
          refine Or.inl ⟨wanted_yes rfl (yielded_at (k := 62) (d := 123) (by kernel_rfl) (show a.tmps.getD 123 undef = _ from facts_at hp 62 123 (by kernel_rfl))), ?_⟩
          have h11 : a.tmps.getD 11 undef = .pointer ov := (ho 11 (by kernel_rfl)).trans rfl
          unfold Oper.wp
          go_simp
          exact Stepped.at (v := .pointer ov) (by first | rfl | simp) hd (Below.refl _ _) rfl
        · intro a wx hb hd hs ho hp
          refine Or.inl ⟨wanted_yes rfl (yielded_at (k := 62) (d := 123) (by kernel_rfl) (show a.tmps.getD 123 undef = _ from facts_at hp 62 123 (by kernel_rfl))), ?_⟩
          have h11 : a.tmps.getD 11 undef = .pointer ov := (ho 11 (by kernel_rfl)).trans rfl
          unfold Oper.wp
          go_simp
          exact Stepped.at (v := .pointer ov) (by first | rfl | simp) hd (Below.refl _ _) rfl
        · intro a wx hb hd hs ho hp
          refine Or.inl ⟨wanted_yes rfl (yielded_at (k := 62) (d := 123) (by kernel_rfl) (show a.tmps.getD 123 undef = _ from facts_at hp 62 123 (by kernel_rfl))), ?_⟩
          have h124 : a.tmps.getD 124 undef = .pointer ov := facts_at hp 63 124 (by kernel_rfl)
          have h125 : a.tmps.getD 125 undef = .pointer ov := facts_at hp 64 125 (by kernel_rfl)
          unfold Oper.wp
          go_simp
          refine (equal_no1 _ _ wx (HN11.out.below hb)).mono ?_
          rintro e w9 ⟨rfl, hb9⟩
          exact Stepped.at (v := .bool false) rfl hd (hb9) rfl
        · intro a wx hb hd hs ho hp
          refine Or.inl ⟨rfl, ?_⟩
          have h123 : a.tmps.getD 123 undef = .bool false := facts_at hp 62 123 (by kernel_rfl)
          have h126 : a.tmps.getD 126 undef = .bool false := facts_at hp 65 126 (by kernel_rfl)
          unfold Oper.wp
          go_simp
          exact Stepped.at (v := .bool false) (by first | rfl | simp) hd (Below.refl _ _) rfl
      intro ac W12 hJ
      obtain ⟨u61, f61⟩ : ∃ u, ac.tmps.getD 61 undef = u := ⟨_, rfl⟩
      obtain ⟨u62, f62⟩ : ∃ u, ac.tmps.getD 62 undef = u := ⟨_, rfl⟩
      obtain ⟨u63, f63⟩ : ∃ u, ac.tmps.getD 63 undef = u := ⟨_, rfl⟩
      obtain ⟨u64, f64⟩ : ∃ u, ac.tmps.getD 64 undef = u := ⟨_, rfl⟩
      obtain ⟨u65, f65⟩ : ∃ u, ac.tmps.getD 65 undef = u := ⟨_, rfl⟩
      obtain ⟨u66, f66⟩ : ∃ u, ac.tmps.getD 66 undef = u := ⟨_, rfl⟩
      obtain ⟨u67, f67⟩ : ∃ u, ac.tmps.getD 67 undef = u := ⟨_, rfl⟩
      obtain ⟨u68, f68⟩ : ∃ u, ac.tmps.getD 68 undef = u := ⟨_, rfl⟩
      obtain ⟨u69, f69⟩ : ∃ u, ac.tmps.getD 69 undef = u := ⟨_, rfl⟩
      obtain ⟨u70, f70⟩ : ∃ u, ac.tmps.getD 70 undef = u := ⟨_, rfl⟩
      obtain ⟨u71, f71⟩ : ∃ u, ac.tmps.getD 71 undef = u := ⟨_, rfl⟩
      obtain ⟨u72, f72⟩ : ∃ u, ac.tmps.getD 72 undef = u := ⟨_, rfl⟩
      obtain ⟨u73, f73⟩ : ∃ u, ac.tmps.getD 73 undef = u := ⟨_, rfl⟩
      obtain ⟨u74, f74⟩ : ∃ u, ac.tmps.getD 74 undef = u := ⟨_, rfl⟩
      obtain ⟨u75, f75⟩ : ∃ u, ac.tmps.getD 75 undef = u := ⟨_, rfl⟩
      obtain ⟨u76, f76⟩ : ∃ u, ac.tmps.getD 76 undef = u := ⟨_, rfl⟩
      obtain ⟨u77, f77⟩ : ∃ u, ac.tmps.getD 77 undef = u := ⟨_, rfl⟩
      obtain ⟨u78, f78⟩ : ∃ u, ac.tmps.getD 78 undef = u := ⟨_, rfl⟩
      obtain ⟨u79, f79⟩ : ∃ u, ac.tmps.getD 79 undef = u := ⟨_, rfl⟩
      obtain ⟨u80, f80⟩ : ∃ u, ac.tmps.getD 80 undef = u := ⟨_, rfl⟩
      obtain ⟨u81, f81⟩ : ∃ u, ac.tmps.getD 81 undef = u := ⟨_, rfl⟩
      obtain ⟨u82, f82⟩ : ∃ u, ac.tmps.getD 82 undef = u := ⟨_, rfl⟩
      obtain ⟨u83, f83⟩ : ∃ u, ac.tmps.getD 83 undef = u := ⟨_, rfl⟩
      obtain ⟨u84, f84⟩ : ∃ u, ac.tmps.getD 84 undef = u := ⟨_, rfl⟩
      obtain ⟨u85, f85⟩ : ∃ u, ac.tmps.getD 85 undef = u := ⟨_, rfl⟩
      obtain ⟨u86, f86⟩ : ∃ u, ac.tmps.getD 86 undef = u := ⟨_, rfl⟩
      obtain ⟨u87, f87⟩ : ∃ u, ac.tmps.getD 87 undef = u := ⟨_, rfl⟩
      obtain ⟨u88, f88⟩ : ∃ u, ac.tmps.getD 88 undef = u := ⟨_, rfl⟩
      obtain ⟨u89, f89⟩ : ∃ u, ac.tmps.getD 89 undef = u := ⟨_, rfl⟩
      obtain ⟨u90, f90⟩ : ∃ u, ac.tmps.getD 90 undef = u := ⟨_, rfl⟩
      obtain ⟨u91, f91⟩ : ∃ u, ac.tmps.getD 91 undef = u := ⟨_, rfl⟩
      obtain ⟨u92, f92⟩ : ∃ u, ac.tmps.getD 92 undef = u := ⟨_, rfl⟩
      obtain ⟨u93, f93⟩ : ∃ u, ac.tmps.getD 93 undef = u := ⟨_, rfl⟩
      obtain ⟨u94, f94⟩ : ∃ u, ac.tmps.getD 94 undef = u := ⟨_, rfl⟩
      obtain ⟨u95, f95⟩ : ∃ u, ac.tmps.getD 95 undef = u := ⟨_, rfl⟩
      obtain ⟨u96, f96⟩ : ∃ u, ac.tmps.getD 96 undef = u := ⟨_, rfl⟩
      obtain ⟨u97, f97⟩ : ∃ u, ac.tmps.getD 97 undef = u := ⟨_, rfl⟩
      obtain ⟨u98, f98⟩ : ∃ u, ac.tmps.getD 98 undef = u := ⟨_, rfl⟩
      obtain ⟨u99, f99⟩ : ∃ u, ac.tmps.getD 99 undef = u := ⟨_, rfl⟩
      obtain ⟨u100, f100⟩ : ∃ u, ac.tmps.getD 100 undef = u := ⟨_, rfl⟩
      obtain ⟨u101, f101⟩ : ∃ u, ac.tmps.getD 101 undef = u := ⟨_, rfl⟩
      obtain ⟨u102, f102⟩ : ∃ u, ac.tmps.getD 102 undef = u := ⟨_, rfl⟩
      obtain ⟨u103, f103⟩ : ∃ u, ac.tmps.getD 103 undef = u := ⟨_, rfl⟩
      obtain ⟨u104, f104⟩ : ∃ u, ac.tmps.getD 104 undef = u := ⟨_, rfl⟩
      obtain ⟨u105, f105⟩ : ∃ u, ac.tmps.getD 105 undef = u := ⟨_, rfl⟩
      obtain ⟨u106, f106⟩ : ∃ u, ac.tmps.getD 106 undef = u := ⟨_, rfl⟩
      obtain ⟨u107, f107⟩ : ∃ u, ac.tmps.getD 107 undef = u := ⟨_, rfl⟩
      obtain ⟨u108, f108⟩ : ∃ u, ac.tmps.getD 108 undef = u := ⟨_, rfl⟩
      obtain ⟨u109, f109⟩ : ∃ u, ac.tmps.getD 109 undef = u := ⟨_, rfl⟩
      obtain ⟨u110, f110⟩ : ∃ u, ac.tmps.getD 110 undef = u := ⟨_, rfl⟩
      obtain ⟨u111, f111⟩ : ∃ u, ac.tmps.getD 111 undef = u := ⟨_, rfl⟩
      obtain ⟨u112, f112⟩ : ∃ u, ac.tmps.getD 112 undef = u := ⟨_, rfl⟩
      obtain ⟨u113, f113⟩ : ∃ u, ac.tmps.getD 113 undef = u := ⟨_, rfl⟩
      obtain ⟨u114, f114⟩ : ∃ u, ac.tmps.getD 114 undef = u := ⟨_, rfl⟩
      obtain ⟨u115, f115⟩ : ∃ u, ac.tmps.getD 115 undef = u := ⟨_, rfl⟩
      obtain ⟨u116, f116⟩ : ∃ u, ac.tmps.getD 116 undef = u := ⟨_, rfl⟩
      obtain ⟨u117, f117⟩ : ∃ u, ac.tmps.getD 117 undef = u := ⟨_, rfl⟩
      obtain ⟨u118, f118⟩ : ∃ u, ac.tmps.getD 118 undef = u := ⟨_, rfl⟩
      obtain ⟨u119, f119⟩ : ∃ u, ac.tmps.getD 119 undef = u := ⟨_, rfl⟩
      obtain ⟨u120, f120⟩ : ∃ u, ac.tmps.getD 120 undef = u := ⟨_, rfl⟩
      obtain ⟨u121, f121⟩ : ∃ u, ac.tmps.getD 121 undef = u := ⟨_, rfl⟩
      obtain ⟨u122, f122⟩ : ∃ u, ac.tmps.getD 122 undef = u := ⟨_, rfl⟩
      obtain ⟨u123, f123⟩ : ∃ u, ac.tmps.getD 123 undef = u := ⟨_, rfl⟩
      obtain ⟨u124, f124⟩ : ∃ u, ac.tmps.getD 124 undef = u := ⟨_, rfl⟩
      obtain ⟨u125, f125⟩ : ∃ u, ac.tmps.getD 125 undef = u := ⟨_, rfl⟩
      obtain ⟨u126, f126⟩ : ∃ u, ac.tmps.getD 126 undef = u := ⟨_, rfl⟩
      have f127 : ac.tmps.getD 127 undef = .bool false := hJ.at_end 66 127 (by kernel_rfl)
      have hBelow := hJ.below
      obtain ⟨TT, DD⟩ := ac
      obtain rfl : DD = [] := hJ.defers
      have hE := slots_merge [false, false, false, false, false, false, false, false, false, false, false, false, false, false, false, false, false, false, false, false, false, false, false, false, false, false, false, false, false, false, false, false, false, false, false, false, false, false, false, false, false, false, false, false, false, false, false, false, false, false, false, false, false, false, false, false, false, false, false, false, false, true, true, true, true, true, true, true, true, true, true, true, true, true, true, true, true, true, true, true, true, true, true, true, true, true, true, true, true, true, true, true, true, true, true, true, true, true, true, true, true, true, true, true, true, true, true, true, true, true, true, true, true, true, true, true, true, true, true, true, true, true, true, true, true, true, true, true, false, false, false, false, false, false, false, false, false, false, false, false, false, false, false, false, false, false, false] 147 hJ.tmps rfl (by kernel_rfl) hJ.outer
      simp only [mergeFrom, Nat.zero_add, Nat.reduceAdd, f61, f62, f63, f64, f65, f66, f67, f68, f69, f70, f71, f72, f73, f74, f75, f76, f77, f78, f79, f80, f81, f82, f83, f84, f85, f86, f87, f88, f89, f90, f91, f92, f93, f94, f95, f96, f97, f98, f99, f100, f101, f102, f103, f104, f105, f106, f107, f108, f109, f110, f111, f112, f113, f114, f115, f116, f117, f118, f119, f120, f121, f122, f123, f124, f125, f126, f127] at hE
      clear hst hJ f61 f62 f63 f64 f65 f66 f67 f68 f69 f70 f71 f72 f73 f74 f75 f76 f77 f78 f79 f80 f81 f82 f83 f84 f85 f86 f87 f88 f89 f90 f91 f92 f93 f94 f95 f96 f97 f98 f99 f100 f101 f102 f103 f104 f105 f106 f107 f108 f109 f110 f111 f112 f113 f114 f115 f116 f117 f118 f119 f120 f121 f122 f123 f124 f125 f126 f127
      subst hE
      have HBZ := Lib.hid (below_then (below_then HBK.out HW.out) hBelow)
      clear hBelow
      go_wp2
      go_roundw
      case rel => exact ⟨j + 1, by omega, by go_num, HBZ.out⟩
      case measure => simp [intOf]; omega
    · obtain rfl : j = 2 := by omega
      have HPO := Lib.hid (show PlaOk ((bNo, 1), (0 : Int), t.str) from plaNo _ (str_ok HTR.out HCT.out))
      have HFN := Lib.hid (filter_no A (fun x hx => (HIR.out.good x hx).1) 0 t.str)
      have HDT := Lib.hid (show t.depth < 4611686018427387900 by have := Tm.depth_le_count t; have := HCT.out; omega)
      obtain ⟨V, hV⟩ : ∃ v, validA (p, us) = v := ⟨_, rfl⟩
      have EV := Lib.hid hV
      have HMV := Lib.hid (show V = true ↔ (p, us) ∈ A from hV ▸ HMEM.out)
      clear hV hBr
      cases hvv : t.valueB with
      | true =>
        have EVV := Lib.hid hvv
        clear hvv
        go_wp2_with fail
        have hst := @FL_grow [fV (.agg #[.string p, .slice ax us.length cx]), fV (.bool V), fV (.pointer (some ⟨S, 0, none⟩)), fV (.agg #[.string p, .slice ax us.length cx]), fV (.bool V), fV (.bool true), fV (.bool true), fV (.agg #[.int .u8 tk, .int .i64 tn, .string ts, .slice ta tl tc]), fV (.bool true), fV (.bool false), fV (.bool false), fV (.pointer (some ⟨S, 0, none⟩)), fV (.agg #[.string bNo, .int .i64 1]), fV (.agg #[.int .u8 tk, .int .i64 tn, .string ts, .slice ta tl tc]), fEmp, fV (.int .i64 0), fV (.bool true), fV (.bool true), fV (.bool true), fV (.bool true)] (by
          intro F hF
          simp only [List.mem_cons, List.not_mem_nil, or_false] at hF
          rcases hF with rfl | rfl | rfl | rfl | rfl | rfl | rfl | rfl | rfl | rfl | rfl | rfl | rfl | rfl | rfl | rfl | rfl | rfl | rfl | rfl <;> first | exact fV_stays _ | exact fEmp_stays)
        refine wp_region_grow_orB (by kernel_rfl) (FL [fV (.agg #[.string p, .slice ax us.length cx]), fV (.bool V), fV (.pointer (some ⟨S, 0, none⟩)), fV (.agg #[.string p, .slice ax us.length cx]), fV (.bool V), fV (.bool true), fV (.bool true), fV (.agg #[.int .u8 tk, .int .i64 tn, .string ts, .slice ta tl tc]), fV (.bool true), fV (.bool false), fV (.bool false), fV (.pointer (some ⟨S, 0, none⟩)), fV (.agg #[.string bNo, .int .i64 1]), fV (.agg #[.int .u8 tk, .int .i64 tn, .string ts, .slice ta tl tc]), fEmp, fV (.int .i64 0), fV (.bool true), fV (.bool true), fV (.bool true), fV (.bool true)]) hst (by kernel_rfl) (steps_or ?_) ?_
        · refine ⟨?_, ?_, ?_, ?_, ?_, ?_, ?_, ?_, ?_, ?_, ?_, ?_, ?_, ?_, ?_, ?_, ?_, ?_, ?_, ?_, trivial⟩
          · intro a wx hb hd hs ho hp
            refine Or.inl ⟨rfl, ?_⟩
            have h3 : a.tmps.getD 3 undef = .pointer (some ⟨m, 0, none⟩) := (ho 3 (by kernel_rfl)).trans rfl
            have hx := (hb.block (m) (Array.getElem?_eq_some_iff.1 HR1.out).1).trans HR1.out
            have s3 := qslot_of (hs.trans (rfl : _ = 147)) (by decide) h3
            have x0 := cells_at hx 0 _ rfl
            have x1 := cells_at hx 1 _ rfl
            unfold Oper.wp
            go_simp
            exact Stepped.at (v := .agg #[.string p, .slice ax us.length cx]) (by first | rfl | simp) hd (Below.refl _ _) rfl
          · intro a wx hb hd hs ho hp
            refine Or.inl ⟨rfl, ?_⟩
            have h128 : a.tmps.getD 128 undef = .agg #[.string p, .slice ax us.length cx] := facts_at hp 0 128 (by kernel_rfl)
            have hx := validA_gen (p, us) _ _ wx (HXR.out.below hb) HCX.out
            rw [EV.out] at hx
            unfold Oper.wp
            go_simp
            refine (hx).mono ?_
            rintro e w9 ⟨rfl, hb9⟩
            exact Stepped.at (v := .bool V) rfl hd (hb9) rfl
          · intro a wx hb hd hs ho hp
            refine Or.inl ⟨rfl, ?_⟩
            have h7 : a.tmps.getD 7 undef = .pointer (some ⟨S, 0, none⟩) := (ho 7 (by kernel_rfl)).trans rfl
            unfold Oper.wp
            go_simp
            exact Stepped.at (v := .pointer (some ⟨S, 0, none⟩)) (by first | rfl | simp) hd (Below.refl _ _) rfl
          · intro a wx hb hd hs ho hp
            refine Or.inl ⟨rfl, ?_⟩
            have h3 : a.tmps.getD 3 undef = .pointer (some ⟨m, 0, none⟩) := (ho 3 (by kernel_rfl)).trans rfl
            have hx := (hb.block (m) (Array.getElem?_eq_some_iff.1 HR1.out).1).trans HR1.out
            have s3 := qslot_of (hs.trans (rfl : _ = 147)) (by decide) h3
            have x0 := cells_at hx 0 _ rfl
            have x1 := cells_at hx 1 _ rfl
            unfold Oper.wp
            go_simp
            exact Stepped.at (v := .agg #[.string p, .slice ax us.length cx]) (by first | rfl | simp) hd (Below.refl _ _) rfl
          · intro a wx hb hd hs ho hp
            refine Or.inl ⟨rfl, ?_⟩
            have h130 : a.tmps.getD 130 undef = .pointer (some ⟨S, 0, none⟩) := facts_at hp 2 130 (by kernel_rfl)
            have h131 : a.tmps.getD 131 undef = .agg #[.string p, .slice ax us.length cx] := facts_at hp 3 131 (by kernel_rfl)
            unfold Oper.wp
            go_simp
            refine (has_q w4.heap.size S lab3 A (p, us) _ _ V wx (HIR.out.below hb) (HXR.out.below hb) HCX.out HMV.out).mono ?_
            rintro e w9 ⟨rfl, hb9⟩
            exact Stepped.at (v := .bool V) rfl hd (hb9) rfl
          · intro a wx hb hd hs ho hp
            refine Or.inl ⟨rfl, ?_⟩
            have h129 : a.tmps.getD 129 undef = .bool V := facts_at hp 1 129 (by kernel_rfl)
            have h132 : a.tmps.getD 132 undef = .bool V := facts_at hp 4 132 (by kernel_rfl)
            unfold Oper.wp
            go_simp
            exact Stepped.at (v := .bool true) (by first | rfl | simp) hd (Below.refl _ _) rfl
          · intro a wx hb hd hs ho hp
            refine Or.inl ⟨rfl, ?_⟩
            have h133 : a.tmps.getD 133 undef = .bool true := facts_at hp 5 133 (by kernel_rfl)
            unfold Oper.wp
            go_simp
            exact Stepped.at (v := .bool true) (by first | rfl | simp) hd (Below.refl _ _) rfl
          · intro a wx hb hd hs ho hp
            refine Or.inl ⟨wanted_yes rfl (yielded_at (k := 6) (d := 134) (by kernel_rfl) (show a.tmps.getD 134 undef = _ from facts_at hp 6 134 (by kernel_rfl))), ?_⟩
            have h4 : a.tmps.getD 4 undef = .pointer (some ⟨m + 1, 0, none⟩) := (ho 4 (by kernel_rfl)).trans rfl
            have hx := (hb.block (m + 1) (Array.getElem?_eq_some_iff.1 HR2.out).1).trans HR2.out
            have s4 := qslot_of (hs.trans (rfl : _ = 147)) (by decide) h4
            have x0 := cells_at hx 0 _ rfl
            have x1 := cells_at hx 1 _ rfl
            have x2 := cells_at hx 2 _ rfl
            have x3 := cells_at hx 3 _ rfl
            unfold Oper.wp
            go_simp
            exact Stepped.at (v := .agg #[.int .u8 tk, .int .i64 tn, .string ts, .slice ta tl tc]) (by first | rfl | simp) hd (Below.refl _ _) rfl
          · intro a wx hb hd hs ho hp
            refine Or.inl ⟨wanted_yes rfl (yielded_at (k := 6) (d := 134) (by kernel_rfl) (show a.tmps.getD 134 undef = _ from facts_at hp 6 134 (by kernel_rfl))), ?_⟩
            have h135 : a.tmps.getD 135 undef = .agg #[.int .u8 tk, .int .i64 tn, .string ts, .slice ta tl tc] := facts_at hp 7 135 (by kernel_rfl)
            have hx := value_any t _ _ _ _ wx ((HTR.out.below hb).mono hb.size) HDT.out
            rw [EVV.out] at hx
            unfold Oper.wp
            go_simp
            refine (hx).mono ?_
            rintro e w9 ⟨rfl, hb9⟩
            exact Stepped.at (v := .bool true) rfl hd (hb9) rfl
          · intro a wx hb hd hs ho hp
            refine Or.inl ⟨wanted_yes rfl (yielded_at (k := 6) (d := 134) (by kernel_rfl) (show a.tmps.getD 134 undef = _ from facts_at hp 6 134 (by kernel_rfl))), ?_⟩
            have h136 : a.tmps.getD 136 undef = .bool true := facts_at hp 8 136 (by kernel_rfl)
            unfold Oper.wp
            go_simp
            exact Stepped.at (v := .bool false) (by first | rfl | simp) hd (Below.refl _ _) rfl
          · intro a wx hb hd hs ho hp
            refine Or.inl ⟨wanted_yes rfl (yielded_at (k := 6) (d := 134) (by kernel_rfl) (show a.tmps.getD 134 undef = _ from facts_at hp 6 134 (by kernel_rfl))), ?_⟩
            have h137 : a.tmps.getD 137 undef = .bool false := facts_at hp 9 137 (by kernel_rfl)
            unfold Oper.wp
            go_simp
            exact Stepped.at (v := .bool false) (by first | rfl | simp) hd (Below.refl _ _) rfl
          · intro a wx hb hd hs ho hp
            refine Or.inl ⟨wanted_yes rfl (yielded_at (k := 10) (d := 138) (by kernel_rfl) (show a.tmps.getD 138 undef = _ from facts_at hp 10 138 (by kernel_rfl))), ?_⟩
            have h7 : a.tmps.getD 7 undef = .pointer (some ⟨S, 0, none⟩) := (ho 7 (by kernel_rfl)).trans rfl
            unfold Oper.wp
            go_simp
            exact Stepped.at (v := .pointer (some ⟨S, 0, none⟩)) (by first | rfl | simp) hd (Below.refl _ _) rfl
          · intro a wx hb hd hs ho hp
            refine Or.inl ⟨wanted_yes rfl (yielded_at (k := 10) (d := 138) (by kernel_rfl) (show a.tmps.getD 138 undef = _ from facts_at hp 10 138 (by kernel_rfl))), ?_⟩
            unfold Oper.wp
            go_simp
            exact Stepped.at (v := .agg #[.string bNo, .int .i64 1]) (by first | rfl | simp) hd (Below.refl _ _) rfl
          · intro a wx hb hd hs ho hp
            refine Or.inl ⟨wanted_yes rfl (yielded_at (k := 10) (d := 138) (by kernel_rfl) (show a.tmps.getD 138 undef = _ from facts_at hp 10 138 (by kernel_rfl))), ?_⟩
            have h4 : a.tmps.getD 4 undef = .pointer (some ⟨m + 1, 0, none⟩) := (ho 4 (by kernel_rfl)).trans rfl
            have hx := (hb.block (m + 1) (Array.getElem?_eq_some_iff.1 HR2.out).1).trans HR2.out
            have s4 := qslot_of (hs.trans (rfl : _ = 147)) (by decide) h4
            have x0 := cells_at hx 0 _ rfl
            have x1 := cells_at hx 1 _ rfl
            have x2 := cells_at hx 2 _ rfl
            have x3 := cells_at hx 3 _ rfl
            unfold Oper.wp
            go_simp
            exact Stepped.at (v := .agg #[.int .u8 tk, .int .i64 tn, .string ts, .slice ta tl tc]) (by first | rfl | simp) hd (Below.refl _ _) rfl
          · intro a wx hb hd hs ho hp
            refine Or.inl ⟨wanted_yes rfl (yielded_at (k := 10) (d := 138) (by kernel_rfl) (show a.tmps.getD 138 undef = _ from facts_at hp 10 138 (by kernel_rfl))), ?_⟩
            have h139 : a.tmps.getD 139 undef = .pointer (some ⟨S, 0, none⟩) := facts_at hp 11 139 (by kernel_rfl)
            have h140 : a.tmps.getD 140 undef = .agg #[.string bNo, .int .i64 1] := facts_at hp 12 140 (by kernel_rfl)
            have h141 : a.tmps.getD 141 undef = .agg #[.int .u8 tk, .int .i64 tn, .string ts, .slice ta tl tc] := facts_at hp 13 141 (by kernel_rfl)
            unfold Oper.wp
            go_simp
            have hx := find_row (HIR.out.below hb) (bNo, 1) 0 t _ _ _ _ HPO.out ((HTR.out.below hb).mono hb.size) HCT.out
            rw [pick_ix, HFN.out] at hx
            refine hx.mono ?_
            rintro e wy ⟨v, rfl, hv, hb9⟩
            exact Stepped.at (v := v) rfl hd hb9 (emp_of hv)
          · intro a wx hb hd hs ho hp
            refine Or.inl ⟨wanted_yes rfl (yielded_at (k := 10) (d := 138) (by kernel_rfl) (show a.tmps.getD 138 undef = _ from facts_at hp 10 138 (by kernel_rfl))), ?_⟩
            have e142 := facts_at hp 14 142 (by kernel_rfl)
            obtain ⟨ga, gc, eq142⟩ := e142
            have h142 : a.tmps.getD 142 undef = .slice ga 0 gc := eq142
            clear eq142
            unfold Oper.wp
            go_simp
            exact Stepped.at (v := .int .i64 0) (by first | rfl | simp) hd (Below.refl _ _) rfl
          · intro a wx hb hd hs ho hp
            refine Or.inl ⟨wanted_yes rfl (yielded_at (k := 10) (d := 138) (by kernel_rfl) (show a.tmps.getD 138 undef = _ from facts_at hp 10 138 (by kernel_rfl))), ?_⟩
            have h143 : a.tmps.getD 143 undef = .int .i64 0 := facts_at hp 15 143 (by kernel_rfl)
            unfold Oper.wp
            go_simp
            exact Stepped.at (v := .bool true) (by first | rfl | simp) hd (Below.refl _ _) rfl
          · intro a wx hb hd hs ho hp
            refine Or.inl ⟨wanted_yes rfl (yielded_at (k := 6) (d := 134) (by kernel_rfl) (show a.tmps.getD 134 undef = _ from facts_at hp 6 134 (by kernel_rfl))), ?_⟩
            have h138 : a.tmps.getD 138 undef = .bool false := facts_at hp 10 138 (by kernel_rfl)
            have h144 : a.tmps.getD 144 undef = .bool true := facts_at hp 16 144 (by kernel_rfl)
            unfold Oper.wp
            go_simp
            exact Stepped.at (v := .bool true) (by first | rfl | simp) hd (Below.refl _ _) rfl
          · intro a wx hb hd hs ho hp
            refine Or.inl ⟨rfl, ?_⟩
            have h134 : a.tmps.getD 134 undef = .bool true := facts_at hp 6 134 (by kernel_rfl)
            have h145 : a.tmps.getD 145 undef = .bool true := facts_at hp 17 145 (by kernel_rfl)
            unfold Oper.wp
            go_simp
            exact Stepped.at (v := .bool true) (by first | rfl | simp) hd (Below.refl _ _) rfl
          · intro a wx hb hd hs ho hp
            refine Or.inl ⟨rfl, ?_⟩
            have h146 : a.tmps.getD 146 undef = .bool true := facts_at hp 18 146 (by kernel_rfl)
            unfold Oper.wp
            go_simp
            exact Stepped.at (v := .bool true) (by first | rfl | simp) hd (Below.refl _ _) rfl
        intro ac W12 hJ
        obtain ⟨u128, f128⟩ : ∃ u, ac.tmps.getD 128 undef = u := ⟨_, rfl⟩
        obtain ⟨u129, f129⟩ : ∃ u, ac.tmps.getD 129 undef = u := ⟨_, rfl⟩
        obtain ⟨u130, f130⟩ : ∃ u, ac.tmps.getD 130 undef = u := ⟨_, rfl⟩
        obtain ⟨u131, f131⟩ : ∃ u, ac.tmps.getD 131 undef = u := ⟨_, rfl⟩
        obtain ⟨u132, f132⟩ : ∃ u, ac.tmps.getD 132 undef = u := ⟨_, rfl⟩
        obtain ⟨u133, f133⟩ : ∃ u, ac.tmps.getD 133 undef = u := ⟨_, rfl⟩
        obtain ⟨u134, f134⟩ : ∃ u, ac.tmps.getD 134 undef = u := ⟨_, rfl⟩
        obtain ⟨u135, f135⟩ : ∃ u, ac.tmps.getD 135 undef = u := ⟨_, rfl⟩
        obtain ⟨u136, f136⟩ : ∃ u, ac.tmps.getD 136 undef = u := ⟨_, rfl⟩
        obtain ⟨u137, f137⟩ : ∃ u, ac.tmps.getD 137 undef = u := ⟨_, rfl⟩
        obtain ⟨u138, f138⟩ : ∃ u, ac.tmps.getD 138 undef = u := ⟨_, rfl⟩
        obtain ⟨u139, f139⟩ : ∃ u, ac.tmps.getD 139 undef = u := ⟨_, rfl⟩
        obtain ⟨u140, f140⟩ : ∃ u, ac.tmps.getD 140 undef = u := ⟨_, rfl⟩
        obtain ⟨u141, f141⟩ : ∃ u, ac.tmps.getD 141 undef = u := ⟨_, rfl⟩
        obtain ⟨u142, f142⟩ : ∃ u, ac.tmps.getD 142 undef = u := ⟨_, rfl⟩
        obtain ⟨u143, f143⟩ : ∃ u, ac.tmps.getD 143 undef = u := ⟨_, rfl⟩
        obtain ⟨u144, f144⟩ : ∃ u, ac.tmps.getD 144 undef = u := ⟨_, rfl⟩
        obtain ⟨u145, f145⟩ : ∃ u, ac.tmps.getD 145 undef = u := ⟨_, rfl⟩
        obtain ⟨u146, f146⟩ : ∃ u, ac.tmps.getD 146 undef = u := ⟨_, rfl⟩
        have f6 : ac.tmps.getD 6 undef = .bool true := hJ.at_end 19 6 (by kernel_rfl)
        have hBelow := hJ.below
        obtain ⟨TT, DD⟩ := ac
        obtain rfl : DD = [] := hJ.defers
        have hE := slots_merge [false, false, false, false, false, false, true, false, false, false, false, false, false, false, false, false, false, false, false, false, false, false, false, false, false, false, false, false, false, false, false, false, false, false, false, false, false, false, false, false, false, false, false, false, false, false, false, false, false, false, false, false, false, false, false, false, false, false, false, false, false, false, false, false, false, false, false, false, false, false, false, false, false, false, false, false, false, false, false, false, false, false, false, false, false, false, false, false, false, false, false, false, false, false, false, false, false, false, false, false, false, false, false, false, false, false, false, false, false, false, false, false, false, false, false, false, false, false, false, false, false, false, false, false, false, false, false, false, true, true, true, true, true, true, true, true, true, true, true, true, true, true, true, true, true, true, true] 147 hJ.tmps rfl (by kernel_rfl) hJ.outer
        simp only [mergeFrom, Nat.zero_add, Nat.reduceAdd, f128, f129, f130, f131, f132, f133, f134, f135, f136, f137, f138, f139, f140, f141, f142, f143, f144, f145, f146, f6] at hE
        clear hst hJ f128 f129 f130 f131 f132 f133 f134 f135 f136 f137 f138 f139 f140 f141 f142 f143 f144 f145 f146 f6
        subst hE
        have HBZ := Lib.hid (below_then HB.out (below_then HBR.out hBelow))
        clear hBelow
        go_wp2
        go_ret
        exact ⟨rfl, HBZ.out⟩
      | false =>
        have EVV := Lib.hid hvv
        clear hvv
        go_wp2_with fail
        have hst := @FL_grow [fV (.agg #[.string p, .slice ax us.length cx]), fV (.bool V), fV (.pointer (some ⟨S, 0, none⟩)), fV (.agg #[.string p, .slice ax us.length cx]), fV (.bool V), fV (.bool true), fV (.bool true), fV (.agg #[.int .u8 tk, .int .i64 tn, .string ts, .slice ta tl tc]), fV (.bool false), fV (.bool true), fV (.bool true), fV undef, fV undef, fV undef, fV undef, fV undef, fV undef, fV (.bool true), fV (.bool true), fV (.bool true)] (by
          intro F hF
          simp only [List.mem_cons, List.not_mem_nil, or_false] at hF
          rcases hF with rfl | rfl | rfl | rfl | rfl | rfl | rfl | rfl | rfl | rfl | rfl | rfl | rfl | rfl | rfl | rfl | rfl | rfl | rfl | rfl <;> first | exact fV_stays _)
        refine wp_region_grow_orB (by kernel_rfl) (FL [fV (.agg #[.string p, .slice ax us.length cx]), fV (.bool V), fV (.pointer (some ⟨S, 0, none⟩)), fV (.agg #[.string p, .slice ax us.length cx]), fV (.bool V), fV (.bool true), fV (.bool true), fV (.agg #[.int .u8 tk, .int .i64 tn, .string ts, .slice ta tl tc]), fV (.bool false), fV (.bool true), fV (.bool true), fV undef, fV undef, fV undef, fV undef, fV undef, fV undef, fV (.bool true), fV (.bool true), fV (.bool true)]) hst (by kernel_rfl) (steps_or ?_) ?_
        · refine ⟨?_, ?_, ?_, ?_, ?_, ?_, ?_, ?_, ?_, ?_, ?_, ?_, ?_, ?_, ?_, ?_, ?_, ?_, ?_, ?_, trivial⟩
          · intro a wx hb hd hs ho hp
            refine Or.inl ⟨rfl, ?_⟩
            have h3 : a.tmps.getD 3 undef = .pointer (some ⟨m, 0, none⟩) := (ho 3 (by kernel_rfl)).trans rfl
            have hx := (hb.block (m) (Array.getElem?_eq_some_iff.1 HR1.out).1).trans HR1.out
            have s3 := qslot_of (hs.trans (rfl : _ = 147)) (by decide) h3
            have x0 := cells_at hx 0 _ rfl
            have x1 := cells_at hx 1 _ rfl
            unfold Oper.wp
            go_simp
            exact Stepped.at (v := .agg #[.string p, .slice ax us.length cx]) (by first | rfl | simp) hd (Below.refl _ _) rfl
          · intro a wx hb hd hs ho hp
            refine Or.inl ⟨rfl, ?_⟩
            have h128 : a.tmps.getD 128 undef = .agg #[.string p, .slice ax us.length cx] := facts_at hp 0 128 (by kernel_rfl)
            have hx := validA_gen (p, us) _ _ wx (HXR.out.below hb) HCX.out
            rw [EV.out] at hx
            unfold Oper.wp
            go_simp
            refine (hx).mono ?_
            rintro e w9 ⟨rfl, hb9⟩
            exact Stepped.at (v := .bool V) rfl hd (hb9) rfl
          · intro a wx hb hd hs ho hp
            refine Or.inl ⟨rfl, ?_⟩
            have h7 : a.tmps.getD 7 undef = .pointer (some ⟨S, 0, none⟩) := (ho 7 (by kernel_rfl)).trans rfl
            unfold Oper.wp
            go_simp
            exact Stepped.at (v := .pointer (some ⟨S, 0, none⟩)) (by first | rfl | simp) hd (Below.refl _ _) rfl
          · intro a wx hb hd hs ho hp
            refine Or.inl ⟨rfl, ?_⟩
            have h3 : a.tmps.getD 3 undef = .pointer (some ⟨m, 0, none⟩) := (ho 3 (by kernel_rfl)).trans rfl
            have hx := (hb.block (m) (Array.getElem?_eq_some_iff.1 HR1.out).1).trans HR1.out
            have s3 := qslot_of (hs.trans (rfl : _ = 147)) (by decide) h3
            have x0 := cells_at hx 0 _ rfl
            have x1 := cells_at hx 1 _ rfl
            unfold Oper.wp
            go_simp
            exact Stepped.at (v := .agg #[.string p, .slice ax us.length cx]) (by first | rfl | simp) hd (Below.refl _ _) rfl
          · intro a wx hb hd hs ho hp
            refine Or.inl ⟨rfl, ?_⟩
            have h130 : a.tmps.getD 130 undef = .pointer (some ⟨S, 0, none⟩) := facts_at hp 2 130 (by kernel_rfl)
            have h131 : a.tmps.getD 131 undef = .agg #[.string p, .slice ax us.length cx] := facts_at hp 3 131 (by kernel_rfl)
            unfold Oper.wp
            go_simp
            refine (has_q w4.heap.size S lab3 A (p, us) _ _ V wx (HIR.out.below hb) (HXR.out.below hb) HCX.out HMV.out).mono ?_
            rintro e w9 ⟨rfl, hb9⟩
            exact Stepped.at (v := .bool V) rfl hd (hb9) rfl
          · intro a wx hb hd hs ho hp
            refine Or.inl ⟨rfl, ?_⟩
            have h129 : a.tmps.getD 129 undef = .bool V := facts_at hp 1 129 (by kernel_rfl)
            have h132 : a.tmps.getD 132 undef = .bool V := facts_at hp 4 132 (by kernel_rfl)
            unfold Oper.wp
            go_simp
            exact Stepped.at (v := .bool true) (by first | rfl | simp) hd (Below.refl _ _) rfl
          · intro a wx hb hd hs ho hp
            refine Or.inl ⟨rfl, ?_⟩
            have h133 : a.tmps.getD 133 undef = .bool true := facts_at hp 5 133 (by kernel_rfl)
            unfold Oper.wp
            go_simp
            exact Stepped.at (v := .bool true) (by first | rfl | simp) hd (Below.refl _ _) rfl
          · intro a wx hb hd hs ho hp
            refine Or.inl ⟨wanted_yes rfl (yielded_at (k := 6) (d := 134) (by kernel_rfl) (show a.tmps.getD 134 undef = _ from facts_at hp 6 134 (by kernel_rfl))), ?_⟩
            have h4 : a.tmps.getD 4 undef = .pointer (some ⟨m + 1, 0, none⟩) := (ho 4 (by kernel_rfl)).trans rfl
            have hx := (hb.block (m + 1) (Array.getElem?_eq_some_iff.1 HR2.out).1).trans HR2.out
            have s4 := qslot_of (hs.trans (rfl : _ = 147)) (by decide) h4
            have x0 := cells_at hx 0 _ rfl
            have x1 := cells_at hx 1 _ rfl
            have x2 := cells_at hx 2 _ rfl
            have x3 := cells_at hx 3 _ rfl
            unfold Oper.wp
            go_simp
            exact Stepped.at (v := .agg #[.int .u8 tk, .int .i64 tn, .string ts, .slice ta tl tc]) (by first | rfl | simp) hd (Below.refl _ _) rfl
          · intro a wx hb hd hs ho hp
            refine Or.inl ⟨wanted_yes rfl (yielded_at (k := 6) (d := 134) (by kernel_rfl) (show a.tmps.getD 134 undef = _ from facts_at hp 6 134 (by kernel_rfl))), ?_⟩
            have h135 : a.tmps.getD 135 undef = .agg #[.int .u8 tk, .int .i64 tn, .string ts, .slice ta tl tc] := facts_at hp 7 135 (by kernel_rfl)
            have hx := value_any t _ _ _ _ wx ((HTR.out.below hb).mono hb.size) HDT.out
            rw [EVV.out] at hx
            unfold Oper.wp
            go_simp
            refine (hx).mono ?_
            rintro e w9 ⟨rfl, hb9⟩
            exact Stepped.at (v := .bool false) rfl hd (hb9) rfl
          · intro a wx hb hd hs ho hp
            refine Or.inl ⟨wanted_yes rfl (yielded_at (k := 6) (d := 134) (by kernel_rfl) (show a.tmps.getD 134 undef = _ from facts_at hp 6 134 (by kernel_rfl))), ?_⟩
            have h136 : a.tmps.getD 136 undef = .bool false := facts_at hp 8 136 (by kernel_rfl)
            unfold Oper.wp
            go_simp
            exact Stepped.at (v := .bool true) (by first | rfl | simp) hd (Below.refl _ _) rfl
          · intro a wx hb hd hs ho hp
            refine Or.inl ⟨wanted_yes rfl (yielded_at (k := 6) (d := 134) (by kernel_rfl) (show a.tmps.getD 134 undef = _ from facts_at hp 6 134 (by kernel_rfl))), ?_⟩
            have h137 : a.tmps.getD 137 undef = .bool true := facts_at hp 9 137 (by kernel_rfl)
            unfold Oper.wp
            go_simp
            exact Stepped.at (v := .bool true) (by first | rfl | simp) hd (Below.refl _ _) rfl
          · intro a wx hb hd hs ho hp
            exact Or.inr ⟨wanted_no rfl (yielded_at (k := 10) (d := 138) (by kernel_rfl) (show a.tmps.getD 138 undef = _ from facts_at hp 10 138 (by kernel_rfl))), fun _ _ => rfl⟩
          · intro a wx hb hd hs ho hp
            exact Or.inr ⟨wanted_no rfl (yielded_at (k := 10) (d := 138) (by kernel_rfl) (show a.tmps.getD 138 undef = _ from facts_at hp 10 138 (by kernel_rfl))), fun _ _ => rfl⟩
          · intro a wx hb hd hs ho hp
            exact Or.inr ⟨wanted_no rfl (yielded_at (k := 10) (d := 138) (by kernel_rfl) (show a.tmps.getD 138 undef = _ from facts_at hp 10 138 (by kernel_rfl))), fun _ _ => rfl⟩
          · intro a wx hb hd hs ho hp
            exact Or.inr ⟨wanted_no rfl (yielded_at (k := 10) (d := 138) (by kernel_rfl) (show a.tmps.getD 138 undef = _ from facts_at hp 10 138 (by kernel_rfl))), fun _ _ => rfl⟩
          · intro a wx hb hd hs ho hp
            exact Or.inr ⟨wanted_no rfl (yielded_at (k := 10) (d := 138) (by kernel_rfl) (show a.tmps.getD 138 undef = _ from facts_at hp 10 138 (by kernel_rfl))), fun _ _ => rfl⟩
          · intro a wx hb hd hs ho hp
            exact Or.inr ⟨wanted_no rfl (yielded_at (k := 10) (d := 138) (by kernel_rfl) (show a.tmps.getD 138 undef = _ from facts_at hp 10 138 (by kernel_rfl))), fun _ _ => rfl⟩
          · intro a wx hb hd hs ho hp
            refine Or.inl ⟨wanted_yes rfl (yielded_at (k := 6) (d := 134) (by kernel_rfl) (show a.tmps.getD 134 undef = _ from facts_at hp 6 134 (by kernel_rfl))), ?_⟩
            have h138 : a.tmps.getD 138 undef = .bool true := facts_at hp 10 138 (by kernel_rfl)
            have h144 : a.tmps.getD 144 undef = undef := facts_at hp 16 144 (by kernel_rfl)
            unfold Oper.wp
            go_simp
            exact Stepped.at (v := .bool true) (by first | rfl | simp) hd (Below.refl _ _) rfl
          · intro a wx hb hd hs ho hp
            refine Or.inl ⟨rfl, ?_⟩
            have h134 : a.tmps.getD 134 undef = .bool true := facts_at hp 6 134 (by kernel_rfl)
            have h145 : a.tmps.getD 145 undef = .bool true := facts_at hp 17 145 (by kernel_rfl)
            unfold Oper.wp
            go_simp
            exact Stepped.at (v := .bool true) (by first | rfl | simp) hd (Below.refl _ _) rfl
          · intro a wx hb hd hs ho hp
            refine Or.inl ⟨rfl, ?_⟩
            have h146 : a.tmps.getD 146 undef = .bool true := facts_at hp 18 146 (by kernel_rfl)
            unfold Oper.wp
            go_simp
            exact Stepped.at (v := .bool true) (by first | rfl | simp) hd (Below.refl _ _) rfl
        intro ac W12 hJ
        obtain ⟨u128, f128⟩ : ∃ u, ac.tmps.getD 128 undef = u := ⟨_, rfl⟩
        obtain ⟨u129, f129⟩ : ∃ u, ac.tmps.getD 129 undef = u := ⟨_, rfl⟩
        obtain ⟨u130, f130⟩ : ∃ u, ac.tmps.getD 130 undef = u := ⟨_, rfl⟩
        obtain ⟨u131, f131⟩ : ∃ u, ac.tmps.getD 131 undef = u := ⟨_, rfl⟩
        obtain ⟨u132, f132⟩ : ∃ u, ac.tmps.getD 132 undef = u := ⟨_, rfl⟩
        obtain ⟨u133, f133⟩ : ∃ u, ac.tmps.getD 133 undef = u := ⟨_, rfl⟩
        obtain ⟨u134, f134⟩ : ∃ u, ac.tmps.getD 134 undef = u := ⟨_, rfl⟩
        obtain ⟨u135, f135⟩ : ∃ u, ac.tmps.getD 135 undef = u := ⟨_, rfl⟩
        obtain ⟨u136, f136⟩ : ∃ u, ac.tmps.getD 136 undef = u := ⟨_, rfl⟩
        obtain ⟨u137, f137⟩ : ∃ u, ac.tmps.getD 137 undef = u := ⟨_, rfl⟩
        obtain ⟨u138, f138⟩ : ∃ u, ac.tmps.getD 138 undef = u := ⟨_, rfl⟩
        obtain ⟨u139, f139⟩ : ∃ u, ac.tmps.getD 139 undef = u := ⟨_, rfl⟩
        obtain ⟨u140, f140⟩ : ∃ u, ac.tmps.getD 140 undef = u := ⟨_, rfl⟩
        obtain ⟨u141, f141⟩ : ∃ u, ac.tmps.getD 141 undef = u := ⟨_, rfl⟩
        obtain ⟨u142, f142⟩ : ∃ u, ac.tmps.getD 142 undef = u := ⟨_, rfl⟩
        obtain ⟨u143, f143⟩ : ∃ u, ac.tmps.getD 143 undef = u := ⟨_, rfl⟩
        obtain ⟨u144, f144⟩ : ∃ u, ac.tmps.getD 144 undef = u := ⟨_, rfl⟩
        obtain ⟨u145, f145⟩ : ∃ u, ac.tmps.getD 145 undef = u := ⟨_, rfl⟩
        obtain ⟨u146, f146⟩ : ∃ u, ac.tmps.getD 146 undef = u := ⟨_, rfl⟩
        have f6 : ac.tmps.getD 6 undef = .bool true := hJ.at_end 19 6 (by kernel_rfl)
        have hBelow := hJ.below
        obtain ⟨TT, DD⟩ := ac
        obtain rfl : DD = [] := hJ.defers
        have hE := slots_merge [false, false, false, false, false, false, true, false, false, false, false, false, false, false, false, false, false, false, false, false, false, false, false, false, false, false, false, false, false, false, false, false, false, false, false, false, false, false, false, false, false, false, false, false, false, false, false, false, false, false, false, false, false, false, false, false, false, false, false, false, false, false, false, false, false, false, false, false, false, false, false, false, false, false, false, false, false, false, false, false, false, false, false, false, false, false, false, false, false, false, false, false, false, false, false, false, false, false, false, false, false, false, false, false, false, false, false, false, false, false, false, false, false, false, false, false, false, false, false, false, false, false, false, false, false, false, false, false, true, true, true, true, true, true, true, true, true, true, true, true, true, true, true, true, true, true, true] 147 hJ.tmps rfl (by kernel_rfl) hJ.outer
        simp only [mergeFrom, Nat.zero_add, Nat.reduceAdd, f128, f129, f130, f131, f132, f133, f134, f135, f136, f137, f138, f139, f140, f141, f142, f143, f144, f145, f146, f6] at hE
        clear hst hJ f128 f129 f130 f131 f132 f133 f134 f135 f136 f137 f138 f139 f140 f141 f142 f143 f144 f145 f146 f6
        subst hE
        have HBZ := Lib.hid (below_then HB.out (below_then HBR.out hBelow))
        clear hBelow
        go_wp2
        go_ret
        exact ⟨rfl, HBZ.out⟩
end Go.Proofs.YtcoieohbmkjpoaaGreatDoor
