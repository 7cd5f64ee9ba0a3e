/- The law of texts: its walk. -/
import Derived.Test.YtikofhldihimaaaGreatDoorTz
import Derived.Test.YtikofhldihimaaaGreatDoorPx
import Derived.Test.YtikofhldihimaaaGreatDoorEq
import Derived.Test.YtikofhldihimaaaGreatDoorRm
namespace Go.Proofs.YtikofhldihimaaaGreatDoor
open Go.RowKit

theorem z102 : (ByteArray.mk #[102, 40]).size = 2 := rfl
theorem z44 : (ByteArray.mk #[44]).size = 1 := rfl
theorem z41 : (ByteArray.mk #[41]).size = 1 := rfl
theorem str_size {t : Tm} {w : World} {B : Nat} {c0 c1 c2 c3 : Value} (h : IsTm B w c0 c1 c2 c3 t) : t.str.size ≤ 24 * t.wt := by
  cases hv : t.validB
  · rw [str_invalid hv]; exact Nat.zero_le _
  · rw [str_valid hv]
    have := text_len t B w c0 c1 c2 c3 h
    show t.text.toArray.size ≤ _
    simp; omega

set_option maxRecDepth 100000 in
set_option maxHeartbeats 20000000 in
theorem texts_any (ta tb : Tm) (a0 a1 a2 a3 b0 b1 b2 b3 : Value) (w : World) (hA0 : IsTm w.heap.size w a0 a1 a2 a3 ta) (hB0 : IsTm w.heap.size w b0 b1 b2 b3 tb) (hwt : ta.wt + tb.wt ≤ 4000000)
    (hgl0 : 0 < w.heap.size) (htab0 : Lib.TabIs Tryz.prog w "internal/strconv.uint64pow10" .u64 Lib.pow10Tab) :
    Calls Tryz.prog 3 #[.agg #[a0, a1, a2, a3], .agg #[b0, b1, b2, b3]] w fun e w' => e = .returned (.bool true) ∧ Below w.heap.size w w' := by
  have hBx : Below w.heap.size w ((w.alloc (.cells #[a0, a1, a2, a3] 24)).alloc (.cells #[b0, b1, b2, b3] 24)) := ((Below.refl _ w).alloc (Nat.le_refl _) _).alloc (by simp) _
  have r2 : HasRow w.heap.size #[a0, a1, a2, a3] ((w.alloc (.cells #[a0, a1, a2, a3] 24)).alloc (.cells #[b0, b1, b2, b3] 24)) :=
    HasRow.grow (World.alloc_heap_new w _) ((Below.refl _ _).alloc (Nat.le_refl _) _)
  have r3 : HasRow (w.heap.size + 1) #[b0, b1, b2, b3] ((w.alloc (.cells #[a0, a1, a2, a3] 24)).alloc (.cells #[b0, b1, b2, b3] 24)) := by
    have := World.alloc_heap_new (w.alloc (.cells #[a0, a1, a2, a3] 24)) (.cells #[b0, b1, b2, b3] 24)
    rw [World.size_alloc] at this; exact this
  have awake : ∀ w1, Below w.heap.size w w1 → Calls Tryz.prog 4 #[] w1 fun e w' => e = .returned (.bool true) ∧ Below w1.heap.size w1 w' := fun w1 h =>
    awake_any w1 (Nat.lt_of_lt_of_le hgl0 h.size) (tab_below h hgl0 htab0)
  have HAW := Lib.hid awake
  have str : ∀ t : Tm, t.wt ≤ 5000000 → ∀ w1 c0 c1 c2 c3, Below w.heap.size w w1 → IsTm w1.heap.size w1 c0 c1 c2 c3 t → Calls Tryz.prog 6 #[.agg #[c0, c1, c2, c3]] w1 fun e w' => e = .returned (.string t.str) ∧ Below w1.heap.size w1 w' :=
    fun t hw w1 c0 c1 c2 c3 h ht => string_any t c0 c1 c2 c3 w1 ht (by have := depth_wt t; omega) (fun _ => by have := text_len t _ _ _ _ _ _ ht; omega) (Nat.lt_of_lt_of_le hgl0 h.size) (tab_below h hgl0 htab0)
  have ok : ∀ t : Tm, t.wt ≤ 5000000 → ∀ w1 c0 c1 c2 c3, IsTm w1.heap.size w1 c0 c1 c2 c3 t → Calls Tryz.prog 7 #[.agg #[c0, c1, c2, c3]] w1 fun e w' => e = .returned (.bool t.validB) ∧ Below w1.heap.size w1 w' :=
    fun t hw w1 c0 c1 c2 c3 ht => valid_any t c0 c1 c2 c3 w1 ht (by have := depth_wt t; omega)
  have hfw := f_wt ta tb
  have hmw := m_wt ta tb
  have hnw := m_wt tb ta
  have HIA : Hid (∀ w1, Below w.heap.size w w1 → IsTm w1.heap.size w1 a0 a1 a2 a3 ta) := Lib.hid (fun w1 h => (hA0.below h).mono h.size)
  have HIB : Hid (∀ w1, Below w.heap.size w w1 → IsTm w1.heap.size w1 b0 b1 b2 b3 tb) := Lib.hid (fun w1 h => (hB0.below h).mono h.size)
  have HSA := Lib.hid (fun w1 h => str ta (by omega) w1 a0 a1 a2 a3 h (HIA.out w1 h))
  have HSB := Lib.hid (fun w1 h => str tb (by omega) w1 b0 b1 b2 b3 h (HIB.out w1 h))
  have HSF := Lib.hid (str (tF ta tb) (by omega))
  have HM1 := Lib.hid (str (tM ta tb) (by omega))
  have HM2 := Lib.hid (str (tM tb ta) (by omega))
  have HVA := Lib.hid (fun w1 (h : Below w.heap.size w w1) => ok ta (by omega) w1 a0 a1 a2 a3 (HIA.out w1 h))
  have HVB := Lib.hid (fun w1 (h : Below w.heap.size w w1) => ok tb (by omega) w1 b0 b1 b2 b3 (HIB.out w1 h))
  have HVF := Lib.hid (ok (tF ta tb) (by omega))
  have HEQ := Lib.hid (fun w1 (h : Below w.heap.size w w1) => equal_any ta tb _ _ _ _ _ _ _ _ w1 (HIA.out w1 h) (HIB.out w1 h))
  have hza := str_size hA0
  have hzb := str_size hB0
  have heq : (Tm.cmp ta tb == 0) = true ↔ ta = tb := by
    rw [beq_iff_eq]; exact cmp_zero ta tb (good_of hA0) (good_of hB0)
  have HMI := Lib.hid (fun h => @m_iff ta tb h)
  have HFS := Lib.hid (fun h => @f_str ta tb h)
  have HFI := Lib.hid (@str_invalid (tF ta tb))
  have HFV := Lib.hid (@fm_valid ta tb)
  have HNA := Lib.hid (fun h => @str_ne ta h)
  have HEA := Lib.hid (@str_invalid ta)
  have HSI := Lib.hid (fun h1 h2 => @str_iff ta tb h1 h2)
  have HEC := Lib.hid heq
  clear str ok awake htab0 hfw hmw hnw hA0 hB0 heq hgl0
  obtain ⟨sa, hsa⟩ : ∃ s, ta.str = s := ⟨_, rfl⟩
  obtain ⟨sb, hsb⟩ : ∃ s, tb.str = s := ⟨_, rfl⟩
  obtain ⟨fs, hfs⟩ : ∃ s, (tF ta tb).str = s := ⟨_, rfl⟩
  obtain ⟨ms, hms⟩ : ∃ s, (tM ta tb).str = s := ⟨_, rfl⟩
  obtain ⟨mn, hmn⟩ : ∃ s, (tM tb ta).str = s := ⟨_, rfl⟩
  obtain ⟨va, hva⟩ : ∃ s, ta.validB = s := ⟨_, rfl⟩
  obtain ⟨vb, hvb⟩ : ∃ s, tb.validB = s := ⟨_, rfl⟩
  obtain ⟨vf, hvf⟩ : ∃ s, (tF ta tb).validB = s := ⟨_, rfl⟩
  obtain ⟨ec, hec⟩ : ∃ s, (Tm.cmp ta tb == 0) = s := ⟨_, rfl⟩
  rw [hsa] at HSA hza HNA HEA HSI HFS
  rw [hsb] at HSB hzb HSI HFS
  rw [hfs] at HSF HFS HFI
  rw [hms] at HM1 HMI
  rw [hmn] at HM2 HMI
  rw [hva] at HVA HFV HNA HEA HSI
  rw [hvb] at HVB HFV HSI
  rw [hvf] at HVF HFV HFS HFI HMI
  rw [hec] at HEQ HEC
  have l1 : va = false → sa = ⟨#[]⟩ := HEA.out
  have l2 : va = true → sa ≠ ⟨#[]⟩ := HNA.out
  have l3 : va = true → vb = true → (sa = sb ↔ ec = true) := fun h1 h2 => (HSI.out h1 h2).trans HEC.out.symm
  have l4 : vf = false → fs = ⟨#[]⟩ := HFI.out
  have l5 : vf = true → va = true ∧ vb = true := fun h => ⟨(HFV.out h).1, (HFV.out h).2.1⟩
  have l6 : vf = true → fs = (⟨#[102, 40]⟩ : ByteArray) ++ sa ++ (⟨#[44]⟩ : ByteArray) ++ sb ++ (⟨#[41]⟩ : ByteArray) := HFS.out
  have l7 : vf = true → (ms = mn ↔ ec = true) := fun h => (HMI.out h).trans HEC.out.symm
  clear HMI HFS HFI HFV HNA HEA HSI HEC hsa hsb hfs hms hmn hva hvb hvf hec
  have hzs : sa.size + sb.size ≤ 96000000 := by omega
  clear hza hzb hwt
  go_enter Tryz.func3, Tryz.ntmps3
  go_wp2_with fail
  revert hBx r2 r3
  generalize ((w.alloc (.cells #[a0, a1, a2, a3] 24)).alloc (.cells #[b0, b1, b2, b3] 24)) = W0
  intro hBx r2 r3
  refine (HAW.out _ hBx).mono ?_
  clear HAW
  rintro e W1 ⟨rfl, hb1⟩
  have q2 := r2.grow hb1
  have q3 := r3.grow hb1
  have hB1 := hBx.trans (hb1.mono hBx.size)
  clear r2 r3 hBx hb1
  have x0 := cells_at q2 0 _ rfl
  have x1 := cells_at q2 1 _ rfl
  have x2 := cells_at q2 2 _ rfl
  have x3 := cells_at q2 3 _ rfl
  have y0 := cells_at q3 0 _ rfl
  have y1 := cells_at q3 1 _ rfl
  have y2 := cells_at q3 2 _ rfl
  have y3 := cells_at q3 3 _ rfl
  go_wp2_with fail
  have hA1 : Below W1.heap.size W1 (W1.alloc (.cells #[a0, a1, a2, a3, b0, b1, b2, b3] 24)) := (Below.refl _ _).alloc (Nat.le_refl _) _
  have hB2 := hB1.trans (hA1.mono hB1.size)
  have HSL := Lib.hid (small_sl [ta, tb] _ _ (sl_two (World.alloc_heap_new W1 (.cells #[a0, a1, a2, a3, b0, b1, b2, b3] 24)) (HIA.out _ hB2) (HIB.out _ hB2)))
  have r2 := q2.grow hA1
  have r3 := q3.grow hA1
  clear q2 q3 hB1 hA1 x0 x1 x2 x3 y0 y1 y2 y3
  revert hB2 r2 r3 HSL
  generalize (W1.alloc (.cells #[a0, a1, a2, a3, b0, b1, b2, b3] 24)) = W2
  intro hB2 HSL r2 r3
  obtain ⟨sm, hsm⟩ : ∃ s, decide (sizeL [ta, tb] 0 300 ≤ 300) = s := ⟨_, rfl⟩
  rw [hsm] at HSL
  clear hsm
  refine HSL.out.mono ?_
  clear HSL
  rintro e W3 ⟨rfl, hb3⟩
  have q2 := r2.grow hb3
  have q3 := r3.grow hb3
  have hBr := hB2.trans (hb3.mono hB2.size)
  clear r2 r3 hB2 hb3
  cases sm
  · go_wp2_with fail
    go_ret
    exact ⟨rfl, hBr⟩
  have r2 := q2
  have r3 := q3
  clear q2 q3
  go_wp2_with fail
  rename_i K hK
  refine wp_region_grow (by kernel_rfl) (FD [.val (.agg #[a0, a1, a2, a3]), .val (.string sa), .val (.agg #[b0, b1, b2, b3]), .val (.string sb), .val (.string sa), .val (.string sb)]) (FD_grow _) (by kernel_rfl) (steps_all ?_) ?_
  ·
    refine ⟨?_, ?_, ?_, ?_, ?_, ?_, trivial⟩
    · intro a wx hb hd hs ho hp
      refine ⟨rfl, ?_⟩
      have h2 : a.tmps.getD 2 undef = _ := (ho 2 (by kernel_rfl)).trans rfl
      have hx := HasRow.grow r2 hb
      have x0 := cells_at hx 0 _ rfl
      have x1 := cells_at hx 1 _ rfl
      have x2 := cells_at hx 2 _ rfl
      have x3 := cells_at hx 3 _ rfl
      unfold Oper.wp
      go_simp
      exact Stepped.at rfl hd (Below.refl _ _) (FD_mk (.val (.agg #[a0, a1, a2, a3])) rfl rfl)
    · intro a wx hb hd hs ho hp
      refine ⟨rfl, ?_⟩
      have h16 : a.tmps.getD 16 undef = .agg #[a0, a1, a2, a3] := val_at hp 0 16 (by kernel_rfl) rfl
      unfold Oper.wp
      go_simp
      refine (HSA.out _ (hBr.trans (hb.mono hBr.size))).mono ?_
      rintro e w2 ⟨rfl, hb2⟩
      exact Stepped.at rfl hd hb2 (FD_mk (.val (.string sa)) rfl rfl)
    · intro a wx hb hd hs ho hp
      refine ⟨rfl, ?_⟩
      have h3 : a.tmps.getD 3 undef = _ := (ho 3 (by kernel_rfl)).trans rfl
      have hx := HasRow.grow r3 hb
      have x0 := cells_at hx 0 _ rfl
      have x1 := cells_at hx 1 _ rfl
      have x2 := cells_at hx 2 _ rfl
      have x3 := cells_at hx 3 _ rfl
      unfold Oper.wp
      go_simp
      exact Stepped.at rfl hd (Below.refl _ _) (FD_mk (.val (.agg #[b0, b1, b2, b3])) rfl rfl)
    · intro a wx hb hd hs ho hp
      refine ⟨rfl, ?_⟩
      have h18 : a.tmps.getD 18 undef = .agg #[b0, b1, b2, b3] := val_at hp 2 18 (by kernel_rfl) rfl
      unfold Oper.wp
      go_simp
      refine (HSB.out _ (hBr.trans (hb.mono hBr.size))).mono ?_
      rintro e w2 ⟨rfl, hb2⟩
      exact Stepped.at rfl hd hb2 (FD_mk (.val (.string sb)) rfl rfl)
    · intro a wx hb hd hs ho hp
      refine ⟨rfl, ?_⟩
      have h17 : a.tmps.getD 17 undef = .string sa := val_at hp 1 17 (by kernel_rfl) rfl
      unfold Oper.wp
      go_simp
      exact Stepped.at rfl hd (Below.refl _ _) (FD_mk (.val (.string sa)) rfl (rfl))
    · intro a wx hb hd hs ho hp
      refine ⟨rfl, ?_⟩
      have h19 : a.tmps.getD 19 undef = .string sb := val_at hp 3 19 (by kernel_rfl) rfl
      unfold Oper.wp
      go_simp
      exact Stepped.at rfl hd (Below.refl _ _) (FD_mk (.val (.string sb)) rfl (rfl))
  intro a W4 hJ
  have h16 : a.tmps.getD 16 undef = .agg #[a0, a1, a2, a3] := FD_at (.val (.agg #[a0, a1, a2, a3])) rfl (hJ.at_end 0 16 (by kernel_rfl))
  have h17 : a.tmps.getD 17 undef = .string sa := FD_at (.val (.string sa)) rfl (hJ.at_end 1 17 (by kernel_rfl))
  have h18 : a.tmps.getD 18 undef = .agg #[b0, b1, b2, b3] := FD_at (.val (.agg #[b0, b1, b2, b3])) rfl (hJ.at_end 2 18 (by kernel_rfl))
  have h19 : a.tmps.getD 19 undef = .string sb := FD_at (.val (.string sb)) rfl (hJ.at_end 3 19 (by kernel_rfl))
  have h5 : a.tmps.getD 5 undef = .string sa := FD_at (.val (.string sa)) rfl (hJ.at_end 4 5 (by kernel_rfl))
  have h6 : a.tmps.getD 6 undef = .string sb := FD_at (.val (.string sb)) rfl (hJ.at_end 5 6 (by kernel_rfl))
  have hb4 := hJ.below
  obtain ⟨T, D⟩ := a
  obtain rfl : D = [] := hJ.defers
  have hE := slots_merge [false, false, false, false, false, true, true, false, false, false, false, false, false, false, false, false, true, true, true, true, false, false, false, false, false, false, false, false, false, false, false, false, false, false, false, false, false, false, false, false, false, false, false, false, false, false, false, false, false, false, false, false, false, false, false, false, false, false, false, false, false, false, false, false, false, false, false, false, false, false, false, false, false, false, false, false, false, false, false] 79 hJ.tmps rfl (by kernel_rfl) hJ.outer
  simp only [mergeFrom, Nat.zero_add, Nat.reduceAdd, h16, h17, h18, h19, h5, h6] at hE
  clear hJ h16 h17 h18 h19 h5 h6
  subst hE
  have q2 := r2.grow hb4
  have q3 := r3.grow hb4
  have hB4 := hBr.trans (hb4.mono hBr.size)
  clear r2 r3 hb4 hBr HSA HSB
  refine hK _ _ ?_
  clear hK
  have x0 := cells_at q2 0 _ rfl
  have x1 := cells_at q2 1 _ rfl
  have x2 := cells_at q2 2 _ rfl
  have x3 := cells_at q2 3 _ rfl
  have y0 := cells_at q3 0 _ rfl
  have y1 := cells_at q3 1 _ rfl
  have y2 := cells_at q3 2 _ rfl
  have y3 := cells_at q3 3 _ rfl
  have z0 : (⟨#[]⟩ : ByteArray).size = 0 := rfl
  cases va
  case false =>
    have e1 := l1 rfl
    subst e1
    obtain rfl : vf = false := by
      cases vf
      · rfl
      · exact absurd (l5 rfl).1 (by decide)
    have e4 := l4 rfl
    subst e4
    clear l1 l2 l3 l4 l5 l6 l7 hzs HM1 HM2 HEQ HVB
    go_wp2_with fail
    refine (HVA.out _ hB4).mono ?_
    rintro e Wn ⟨rfl, hb⟩
    replace q2 := q2.grow hb
    replace q3 := q3.grow hb
    replace hB4 := hB4.trans (hb.mono hB4.size)
    clear x0 x1 x2 x3 y0 y1 y2 y3 hb
    have x0 := cells_at q2 0 _ rfl
    have x1 := cells_at q2 1 _ rfl
    have x2 := cells_at q2 2 _ rfl
    have x3 := cells_at q2 3 _ rfl
    have y0 := cells_at q3 0 _ rfl
    have y1 := cells_at q3 1 _ rfl
    have y2 := cells_at q3 2 _ rfl
    have y3 := cells_at q3 3 _ rfl
    go_wp2_with fail
    refine (HVA.out _ hB4).mono ?_
    rintro e Wn ⟨rfl, hb⟩
    replace q2 := q2.grow hb
    replace q3 := q3.grow hb
    replace hB4 := hB4.trans (hb.mono hB4.size)
    clear x0 x1 x2 x3 y0 y1 y2 y3 hb
    have x0 := cells_at q2 0 _ rfl
    have x1 := cells_at q2 1 _ rfl
    have x2 := cells_at q2 2 _ rfl
    have x3 := cells_at q2 3 _ rfl
    have y0 := cells_at q3 0 _ rfl
    have y1 := cells_at q3 1 _ rfl
    have y2 := cells_at q3 2 _ rfl
    have y3 := cells_at q3 3 _ rfl
    go_wp2_with fail
    have hA1 : Below Wn.heap.size Wn (Wn.alloc (.cells #[a0, a1, a2, a3, b0, b1, b2, b3] 24)) := (Below.refl _ _).alloc (Nat.le_refl _) _
    have hB5 := hB4.trans (hA1.mono hB4.size)
    have HSL := Lib.hid (fun_any ⟨#[102]⟩ (one_small 102) [ta, tb] _ _ (sl_two (World.alloc_heap_new Wn (.cells #[a0, a1, a2, a3, b0, b1, b2, b3] 24)) (HIA.out _ hB5) (HIB.out _ hB5)))
    replace q2 := q2.grow hA1
    replace q3 := q3.grow hA1
    clear hB4 hA1 x0 x1 x2 x3 y0 y1 y2 y3
    revert hB5 q2 q3 HSL
    generalize (Wn.alloc (.cells #[a0, a1, a2, a3, b0, b1, b2, b3] 24)) = W5
    intro hB5 HSL q2 q3
    refine HSL.out.mono ?_
    clear HSL
    rintro e W6 ⟨v, rfl, ⟨f0, f1, f2, f3, rfl, ft⟩, hb⟩
    replace q2 := q2.grow hb
    replace q3 := q3.grow hb
    have hB6 := hB5.trans (hb.mono hB5.size)
    clear hB5 hb
    have fq := ft
    unfold tFun at fq
    simp only [IsTm, List.length_cons, List.length_nil, Nat.zero_add, Nat.reduceAdd] at fq
    obtain ⟨rfl, _, rfl, _, rfl, _, fa, fc, rfl, _, _⟩ := fq
    go_wp2_with fail
    have hb7 : Below W6.heap.size W6 (W6.alloc (.cells #[.int .u8 4, .int .i64 0, .string ⟨#[102]⟩, .slice fa 2 fc] 24)) := (Below.refl _ _).alloc (Nat.le_refl _) _
    have k4 : HasRow W6.heap.size #[.int .u8 4, .int .i64 0, .string ⟨#[102]⟩, .slice fa 2 fc] (W6.alloc (.cells #[.int .u8 4, .int .i64 0, .string ⟨#[102]⟩, .slice fa 2 fc] 24)) := World.alloc_heap_new W6 _
    have hB7 := hB6.trans (hb7.mono hB6.size)
    replace q2 := q2.grow hb7
    replace q3 := q3.grow hb7
    replace ft := (ft.below hb7).mono hb7.size
    clear hb7 hB6
    revert k4 hB7 q2 q3 ft
    generalize (W6.alloc (.cells #[.int .u8 4, .int .i64 0, .string ⟨#[102]⟩, .slice fa 2 fc] 24)) = W7
    intro k4 hB7 q2 q3 ft
    refine (HSF.out _ _ _ _ _ hB7 ft).mono ?_
    clear HSF
    rintro e W8 ⟨rfl, hb⟩
    replace q2 := q2.grow hb
    replace q3 := q3.grow hb
    replace k4 := k4.grow hb
    have hB8 := hB7.trans (hb.mono hB7.size)
    replace ft := (ft.below hb).mono hb.size
    clear hB7 hb
    have p0 := cells_at k4 0 _ rfl
    have p1 := cells_at k4 1 _ rfl
    have p2 := cells_at k4 2 _ rfl
    have p3 := cells_at k4 3 _ rfl
    go_wp2_with fail
    refine (HVF.out _ _ _ _ _ ft).mono ?_
    clear HVF
    rintro e W9 ⟨rfl, hb⟩
    replace q2 := q2.grow hb
    replace q3 := q3.grow hb
    have hBr := hB8.trans (hb.mono hB8.size)
    clear hB8 hb p0 p1 p2 p3 k4 ft
    go_wp2_with fail
    go_ret
    exact ⟨rfl, hBr⟩
  have e2 := l2 rfl
  have e2a : (sa.toList == []) = false := beq_eq_false_iff_ne.2 (fun h => e2 (str_inj.1 (h.trans (show ([] : List UInt8) = ByteArray.toList ⟨#[]⟩ by decide +kernel))))
  cases vb
  case false =>
    obtain rfl : vf = false := by
      cases vf
      · rfl
      · exact absurd (l5 rfl).2 (by decide)
    have e4 := l4 rfl
    subst e4
    clear l1 l2 l3 l4 l5 l6 l7 hzs HM1 HM2 HEQ
    go_wp2_with fail
    refine (HVA.out _ hB4).mono ?_
    rintro e Wn ⟨rfl, hb⟩
    replace q2 := q2.grow hb
    replace q3 := q3.grow hb
    replace hB4 := hB4.trans (hb.mono hB4.size)
    clear x0 x1 x2 x3 y0 y1 y2 y3 hb
    have x0 := cells_at q2 0 _ rfl
    have x1 := cells_at q2 1 _ rfl
    have x2 := cells_at q2 2 _ rfl
    have x3 := cells_at q2 3 _ rfl
    have y0 := cells_at q3 0 _ rfl
    have y1 := cells_at q3 1 _ rfl
    have y2 := cells_at q3 2 _ rfl
    have y3 := cells_at q3 3 _ rfl
    go_wp2_with fail
    refine (HVA.out _ hB4).mono ?_
    rintro e Wn ⟨rfl, hb⟩
    replace q2 := q2.grow hb
    replace q3 := q3.grow hb
    replace hB4 := hB4.trans (hb.mono hB4.size)
    clear x0 x1 x2 x3 y0 y1 y2 y3 hb
    have x0 := cells_at q2 0 _ rfl
    have x1 := cells_at q2 1 _ rfl
    have x2 := cells_at q2 2 _ rfl
    have x3 := cells_at q2 3 _ rfl
    have y0 := cells_at q3 0 _ rfl
    have y1 := cells_at q3 1 _ rfl
    have y2 := cells_at q3 2 _ rfl
    have y3 := cells_at q3 3 _ rfl
    go_wp2_with fail
    refine (HVB.out _ hB4).mono ?_
    rintro e Wn ⟨rfl, hb⟩
    replace q2 := q2.grow hb
    replace q3 := q3.grow hb
    replace hB4 := hB4.trans (hb.mono hB4.size)
    clear x0 x1 x2 x3 y0 y1 y2 y3 hb
    have x0 := cells_at q2 0 _ rfl
    have x1 := cells_at q2 1 _ rfl
    have x2 := cells_at q2 2 _ rfl
    have x3 := cells_at q2 3 _ rfl
    have y0 := cells_at q3 0 _ rfl
    have y1 := cells_at q3 1 _ rfl
    have y2 := cells_at q3 2 _ rfl
    have y3 := cells_at q3 3 _ rfl
    go_wp2_with fail
    clear e2 e2a
    have hA1 : Below Wn.heap.size Wn (Wn.alloc (.cells #[a0, a1, a2, a3, b0, b1, b2, b3] 24)) := (Below.refl _ _).alloc (Nat.le_refl _) _
    have hB5 := hB4.trans (hA1.mono hB4.size)
    have HSL := Lib.hid (fun_any ⟨#[102]⟩ (one_small 102) [ta, tb] _ _ (sl_two (World.alloc_heap_new Wn (.cells #[a0, a1, a2, a3, b0, b1, b2, b3] 24)) (HIA.out _ hB5) (HIB.out _ hB5)))
    replace q2 := q2.grow hA1
    replace q3 := q3.grow hA1
    clear hB4 hA1 x0 x1 x2 x3 y0 y1 y2 y3
    revert hB5 q2 q3 HSL
    generalize (Wn.alloc (.cells #[a0, a1, a2, a3, b0, b1, b2, b3] 24)) = W5
    intro hB5 HSL q2 q3
    refine HSL.out.mono ?_
    clear HSL
    rintro e W6 ⟨v, rfl, ⟨f0, f1, f2, f3, rfl, ft⟩, hb⟩
    replace q2 := q2.grow hb
    replace q3 := q3.grow hb
    have hB6 := hB5.trans (hb.mono hB5.size)
    clear hB5 hb
    have fq := ft
    unfold tFun at fq
    simp only [IsTm, List.length_cons, List.length_nil, Nat.zero_add, Nat.reduceAdd] at fq
    obtain ⟨rfl, _, rfl, _, rfl, _, fa, fc, rfl, _, _⟩ := fq
    go_wp2_with fail
    have hb7 : Below W6.heap.size W6 (W6.alloc (.cells #[.int .u8 4, .int .i64 0, .string ⟨#[102]⟩, .slice fa 2 fc] 24)) := (Below.refl _ _).alloc (Nat.le_refl _) _
    have k4 : HasRow W6.heap.size #[.int .u8 4, .int .i64 0, .string ⟨#[102]⟩, .slice fa 2 fc] (W6.alloc (.cells #[.int .u8 4, .int .i64 0, .string ⟨#[102]⟩, .slice fa 2 fc] 24)) := World.alloc_heap_new W6 _
    have hB7 := hB6.trans (hb7.mono hB6.size)
    replace q2 := q2.grow hb7
    replace q3 := q3.grow hb7
    replace ft := (ft.below hb7).mono hb7.size
    clear hb7 hB6
    revert k4 hB7 q2 q3 ft
    generalize (W6.alloc (.cells #[.int .u8 4, .int .i64 0, .string ⟨#[102]⟩, .slice fa 2 fc] 24)) = W7
    intro k4 hB7 q2 q3 ft
    refine (HSF.out _ _ _ _ _ hB7 ft).mono ?_
    clear HSF
    rintro e W8 ⟨rfl, hb⟩
    replace q2 := q2.grow hb
    replace q3 := q3.grow hb
    replace k4 := k4.grow hb
    have hB8 := hB7.trans (hb.mono hB7.size)
    replace ft := (ft.below hb).mono hb.size
    clear hB7 hb
    have p0 := cells_at k4 0 _ rfl
    have p1 := cells_at k4 1 _ rfl
    have p2 := cells_at k4 2 _ rfl
    have p3 := cells_at k4 3 _ rfl
    go_wp2_with fail
    refine (HVF.out _ _ _ _ _ ft).mono ?_
    clear HVF
    rintro e W9 ⟨rfl, hb⟩
    replace q2 := q2.grow hb
    replace q3 := q3.grow hb
    have hBr := hB8.trans (hb.mono hB8.size)
    clear hB8 hb p0 p1 p2 p3 k4 ft
    go_wp2_with fail
    go_ret
    exact ⟨rfl, hBr⟩
  have l3' := l3 rfl rfl
  have e3 : (sa.toList == sb.toList) = ec := by
    rw [Bool.eq_iff_iff, beq_iff_eq, str_inj]
    exact l3'
  clear l1 l2 l3 l5 l3'
  go_wp2_with fail
  refine (HVA.out _ hB4).mono ?_
  rintro e Wn ⟨rfl, hb⟩
  replace q2 := q2.grow hb
  replace q3 := q3.grow hb
  replace hB4 := hB4.trans (hb.mono hB4.size)
  clear x0 x1 x2 x3 y0 y1 y2 y3 hb
  have x0 := cells_at q2 0 _ rfl
  have x1 := cells_at q2 1 _ rfl
  have x2 := cells_at q2 2 _ rfl
  have x3 := cells_at q2 3 _ rfl
  have y0 := cells_at q3 0 _ rfl
  have y1 := cells_at q3 1 _ rfl
  have y2 := cells_at q3 2 _ rfl
  have y3 := cells_at q3 3 _ rfl
  go_wp2_with fail
  refine (HVA.out _ hB4).mono ?_
  rintro e Wn ⟨rfl, hb⟩
  replace q2 := q2.grow hb
  replace q3 := q3.grow hb
  replace hB4 := hB4.trans (hb.mono hB4.size)
  clear x0 x1 x2 x3 y0 y1 y2 y3 hb
  have x0 := cells_at q2 0 _ rfl
  have x1 := cells_at q2 1 _ rfl
  have x2 := cells_at q2 2 _ rfl
  have x3 := cells_at q2 3 _ rfl
  have y0 := cells_at q3 0 _ rfl
  have y1 := cells_at q3 1 _ rfl
  have y2 := cells_at q3 2 _ rfl
  have y3 := cells_at q3 3 _ rfl
  go_wp2_with fail
  refine (HVB.out _ hB4).mono ?_
  rintro e Wn ⟨rfl, hb⟩
  replace q2 := q2.grow hb
  replace q3 := q3.grow hb
  replace hB4 := hB4.trans (hb.mono hB4.size)
  clear x0 x1 x2 x3 y0 y1 y2 y3 hb
  have x0 := cells_at q2 0 _ rfl
  have x1 := cells_at q2 1 _ rfl
  have x2 := cells_at q2 2 _ rfl
  have x3 := cells_at q2 3 _ rfl
  have y0 := cells_at q3 0 _ rfl
  have y1 := cells_at q3 1 _ rfl
  have y2 := cells_at q3 2 _ rfl
  have y3 := cells_at q3 3 _ rfl
  go_wp2_with fail
  refine (HEQ.out _ hB4).mono ?_
  rintro e Wn ⟨rfl, hb⟩
  replace q2 := q2.grow hb
  replace q3 := q3.grow hb
  replace hB4 := hB4.trans (hb.mono hB4.size)
  clear x0 x1 x2 x3 y0 y1 y2 y3 hb
  have x0 := cells_at q2 0 _ rfl
  have x1 := cells_at q2 1 _ rfl
  have x2 := cells_at q2 2 _ rfl
  have x3 := cells_at q2 3 _ rfl
  have y0 := cells_at q3 0 _ rfl
  have y1 := cells_at q3 1 _ rfl
  have y2 := cells_at q3 2 _ rfl
  have y3 := cells_at q3 3 _ rfl
  go_wp2_with fail
  clear e2 e2a e3 HVA HVB
  have hA1 : Below Wn.heap.size Wn (Wn.alloc (.cells #[a0, a1, a2, a3, b0, b1, b2, b3] 24)) := (Below.refl _ _).alloc (Nat.le_refl _) _
  have hB5 := hB4.trans (hA1.mono hB4.size)
  have HSL := Lib.hid (fun_any ⟨#[102]⟩ (one_small 102) [ta, tb] _ _ (sl_two (World.alloc_heap_new Wn (.cells #[a0, a1, a2, a3, b0, b1, b2, b3] 24)) (HIA.out _ hB5) (HIB.out _ hB5)))
  replace q2 := q2.grow hA1
  replace q3 := q3.grow hA1
  clear hB4 hA1 x0 x1 x2 x3 y0 y1 y2 y3
  revert hB5 q2 q3 HSL
  generalize (Wn.alloc (.cells #[a0, a1, a2, a3, b0, b1, b2, b3] 24)) = W5
  intro hB5 HSL q2 q3
  refine HSL.out.mono ?_
  clear HSL
  rintro e W6 ⟨v, rfl, ⟨f0, f1, f2, f3, rfl, ft⟩, hb⟩
  replace q2 := q2.grow hb
  replace q3 := q3.grow hb
  have hB6 := hB5.trans (hb.mono hB5.size)
  clear hB5 hb
  have fq := ft
  unfold tFun at fq
  simp only [IsTm, List.length_cons, List.length_nil, Nat.zero_add, Nat.reduceAdd] at fq
  obtain ⟨rfl, _, rfl, _, rfl, _, fa, fc, rfl, _, _⟩ := fq
  go_wp2_with fail
  have hb7 : Below W6.heap.size W6 (W6.alloc (.cells #[.int .u8 4, .int .i64 0, .string ⟨#[102]⟩, .slice fa 2 fc] 24)) := (Below.refl _ _).alloc (Nat.le_refl _) _
  have k4 : HasRow W6.heap.size #[.int .u8 4, .int .i64 0, .string ⟨#[102]⟩, .slice fa 2 fc] (W6.alloc (.cells #[.int .u8 4, .int .i64 0, .string ⟨#[102]⟩, .slice fa 2 fc] 24)) := World.alloc_heap_new W6 _
  have hB7 := hB6.trans (hb7.mono hB6.size)
  replace q2 := q2.grow hb7
  replace q3 := q3.grow hb7
  replace ft := (ft.below hb7).mono hb7.size
  clear hb7 hB6
  revert k4 hB7 q2 q3 ft
  generalize (W6.alloc (.cells #[.int .u8 4, .int .i64 0, .string ⟨#[102]⟩, .slice fa 2 fc] 24)) = W7
  intro k4 hB7 q2 q3 ft
  refine (HSF.out _ _ _ _ _ hB7 ft).mono ?_
  clear HSF
  rintro e W8 ⟨rfl, hb⟩
  replace q2 := q2.grow hb
  replace q3 := q3.grow hb
  replace k4 := k4.grow hb
  have hB8 := hB7.trans (hb.mono hB7.size)
  replace ft := (ft.below hb).mono hb.size
  clear hB7 hb
  have p0 := cells_at k4 0 _ rfl
  have p1 := cells_at k4 1 _ rfl
  have p2 := cells_at k4 2 _ rfl
  have p3 := cells_at k4 3 _ rfl
  go_wp2_with fail
  refine (HVF.out _ _ _ _ _ ft).mono ?_
  clear HVF
  rintro e W9 ⟨rfl, hb⟩
  replace q2 := q2.grow hb
  replace q3 := q3.grow hb
  have hBr := hB8.trans (hb.mono hB8.size)
  clear hB8 hb p0 p1 p2 p3 k4 ft

  cases vf
  case false =>
    have e4 := l4 rfl
    subst e4
    go_wp2_with fail
    go_ret
    exact ⟨rfl, hBr⟩
  have e6 := l6 rfl
  have e8 : (ms.toList == mn.toList) = ec := by
    rw [Bool.eq_iff_iff, beq_iff_eq, str_inj]
    exact l7 rfl
  have r2 := q2
  have r3 := q3
  subst e6
  clear l4 l6 l7 q2 q3
  go_wp2_with fail
  rename_i K2 hK2
  refine wp_region_grow (by kernel_rfl) (FD [.val (.string ((⟨#[102, 40]⟩ : ByteArray) ++ sa ++ (⟨#[44]⟩ : ByteArray) ++ sb ++ (⟨#[41]⟩ : ByteArray))), .val (.string sa), .val (.string ((⟨#[102, 40]⟩ : ByteArray) ++ sa)), .val (.string ((⟨#[102, 40]⟩ : ByteArray) ++ sa ++ (⟨#[44]⟩ : ByteArray))), .val (.string sb), .val (.string ((⟨#[102, 40]⟩ : ByteArray) ++ sa ++ (⟨#[44]⟩ : ByteArray) ++ sb)), .val (.string ((⟨#[102, 40]⟩ : ByteArray) ++ sa ++ (⟨#[44]⟩ : ByteArray) ++ sb ++ (⟨#[41]⟩ : ByteArray))), .val (.bool true), .val (.bool true), .val (.agg #[a0, a1, a2, a3]), .val (.agg #[b0, b1, b2, b3]), .sl [ta, tb], .tm (tM ta tb), .val (.string ms), .val (.agg #[b0, b1, b2, b3]), .val (.agg #[a0, a1, a2, a3]), .sl [tb, ta], .tm (tM tb ta), .val (.string mn), .val (.bool (!ec)), .val (.agg #[a0, a1, a2, a3]), .val (.agg #[b0, b1, b2, b3]), .val (.bool ec), .val (.bool (!ec)), .val (.bool true), .val (.bool true), .val (.bool true)]) (FD_grow _) (by kernel_rfl) (steps_all ?_) ?_
  ·
    refine ⟨?_, ?_, ?_, ?_, ?_, ?_, ?_, ?_, ?_, ?_, ?_, ?_, ?_, ?_, ?_, ?_, ?_, ?_, ?_, ?_, ?_, ?_, ?_, ?_, ?_, ?_, ?_, trivial⟩
    · intro a wx hb hd hs ho hp
      refine ⟨rfl, ?_⟩
      have h8 : a.tmps.getD 8 undef = .string ((⟨#[102, 40]⟩ : ByteArray) ++ sa ++ (⟨#[44]⟩ : ByteArray) ++ sb ++ (⟨#[41]⟩ : ByteArray)) := (ho 8 (by kernel_rfl)).trans rfl
      unfold Oper.wp
      go_simp
      exact Stepped.at rfl hd (Below.refl _ _) (FD_mk (.val (.string ((⟨#[102, 40]⟩ : ByteArray) ++ sa ++ (⟨#[44]⟩ : ByteArray) ++ sb ++ (⟨#[41]⟩ : ByteArray)))) rfl (rfl))
    · intro a wx hb hd hs ho hp
      refine ⟨rfl, ?_⟩
      have h5 : a.tmps.getD 5 undef = .string sa := (ho 5 (by kernel_rfl)).trans rfl
      unfold Oper.wp
      go_simp
      exact Stepped.at rfl hd (Below.refl _ _) (FD_mk (.val (.string sa)) rfl (rfl))
    · intro a wx hb hd hs ho hp
      refine ⟨rfl, ?_⟩
      have h54 : a.tmps.getD 54 undef = .string sa := val_at hp 1 54 (by kernel_rfl) rfl
      unfold Oper.wp
      go_simp
      rw [if_neg (by first | omega | (simp only [ByteArray.size_append, z102, z44, z41] at *; omega))]
      go_simp
      exact Stepped.at rfl hd (Below.refl _ _) (FD_mk (.val (.string ((⟨#[102, 40]⟩ : ByteArray) ++ sa))) rfl (rfl))
    · intro a wx hb hd hs ho hp
      refine ⟨rfl, ?_⟩
      have h55 : a.tmps.getD 55 undef = .string ((⟨#[102, 40]⟩ : ByteArray) ++ sa) := val_at hp 2 55 (by kernel_rfl) rfl
      unfold Oper.wp
      go_simp
      rw [if_neg (by first | omega | (simp only [ByteArray.size_append, z102, z44, z41] at *; omega))]
      go_simp
      exact Stepped.at rfl hd (Below.refl _ _) (FD_mk (.val (.string ((⟨#[102, 40]⟩ : ByteArray) ++ sa ++ (⟨#[44]⟩ : ByteArray)))) rfl (rfl))
    · intro a wx hb hd hs ho hp
      refine ⟨rfl, ?_⟩
      have h6 : a.tmps.getD 6 undef = .string sb := (ho 6 (by kernel_rfl)).trans rfl
      unfold Oper.wp
      go_simp
      exact Stepped.at rfl hd (Below.refl _ _) (FD_mk (.val (.string sb)) rfl (rfl))
    · intro a wx hb hd hs ho hp
      refine ⟨rfl, ?_⟩
      have h56 : a.tmps.getD 56 undef = .string ((⟨#[102, 40]⟩ : ByteArray) ++ sa ++ (⟨#[44]⟩ : ByteArray)) := val_at hp 3 56 (by kernel_rfl) rfl
      have h57 : a.tmps.getD 57 undef = .string sb := val_at hp 4 57 (by kernel_rfl) rfl
      unfold Oper.wp
      go_simp
      rw [if_neg (by first | omega | (simp only [ByteArray.size_append, z102, z44, z41] at *; omega))]
      go_simp
      exact Stepped.at rfl hd (Below.refl _ _) (FD_mk (.val (.string ((⟨#[102, 40]⟩ : ByteArray) ++ sa ++ (⟨#[44]⟩ : ByteArray) ++ sb))) rfl (rfl))
    · intro a wx hb hd hs ho hp
      refine ⟨rfl, ?_⟩
      have h58 : a.tmps.getD 58 undef = .string ((⟨#[102, 40]⟩ : ByteArray) ++ sa ++ (⟨#[44]⟩ : ByteArray) ++ sb) := val_at hp 5 58 (by kernel_rfl) rfl
      unfold Oper.wp
      go_simp
      rw [if_neg (by first | omega | (simp only [ByteArray.size_append, z102, z44, z41] at *; omega))]
      go_simp
      exact Stepped.at rfl hd (Below.refl _ _) (FD_mk (.val (.string ((⟨#[102, 40]⟩ : ByteArray) ++ sa ++ (⟨#[44]⟩ : ByteArray) ++ sb ++ (⟨#[41]⟩ : ByteArray)))) rfl (rfl))
    · intro a wx hb hd hs ho hp
      refine ⟨rfl, ?_⟩
      have h53 : a.tmps.getD 53 undef = .string ((⟨#[102, 40]⟩ : ByteArray) ++ sa ++ (⟨#[44]⟩ : ByteArray) ++ sb ++ (⟨#[41]⟩ : ByteArray)) := val_at hp 0 53 (by kernel_rfl) rfl
      have h59 : a.tmps.getD 59 undef = .string ((⟨#[102, 40]⟩ : ByteArray) ++ sa ++ (⟨#[44]⟩ : ByteArray) ++ sb ++ (⟨#[41]⟩ : ByteArray)) := val_at hp 6 59 (by kernel_rfl) rfl
      unfold Oper.wp
      go_simp
      exact Stepped.at rfl hd (Below.refl _ _) (FD_mk (.val (.bool true)) rfl (by first | rfl | simp))
    · intro a wx hb hd hs ho hp
      refine ⟨rfl, ?_⟩
      have h60 : a.tmps.getD 60 undef = .bool true := val_at hp 7 60 (by kernel_rfl) rfl
      unfold Oper.wp
      go_simp
      exact Stepped.at rfl hd (Below.refl _ _) (FD_mk (.val (.bool true)) rfl (rfl))
    · intro a wx hb hd hs ho hp
      refine ⟨wanted_of rfl (yielded_at (k := 8) (d := 61) (by kernel_rfl) (val_at hp 8 61 (by kernel_rfl) rfl)), ?_⟩
      have h2 : a.tmps.getD 2 undef = _ := (ho 2 (by kernel_rfl)).trans rfl
      have hx := HasRow.grow r2 hb
      have x0 := cells_at hx 0 _ rfl
      have x1 := cells_at hx 1 _ rfl
      have x2 := cells_at hx 2 _ rfl
      have x3 := cells_at hx 3 _ rfl
      unfold Oper.wp
      go_simp
      exact Stepped.at rfl hd (Below.refl _ _) (FD_mk (.val (.agg #[a0, a1, a2, a3])) rfl rfl)
    · intro a wx hb hd hs ho hp
      refine ⟨wanted_of rfl (yielded_at (k := 8) (d := 61) (by kernel_rfl) (val_at hp 8 61 (by kernel_rfl) rfl)), ?_⟩
      have h3 : a.tmps.getD 3 undef = _ := (ho 3 (by kernel_rfl)).trans rfl
      have hx := HasRow.grow r3 hb
      have x0 := cells_at hx 0 _ rfl
      have x1 := cells_at hx 1 _ rfl
      have x2 := cells_at hx 2 _ rfl
      have x3 := cells_at hx 3 _ rfl
      unfold Oper.wp
      go_simp
      exact Stepped.at rfl hd (Below.refl _ _) (FD_mk (.val (.agg #[b0, b1, b2, b3])) rfl rfl)
    · intro a wx hb hd hs ho hp
      refine ⟨wanted_of rfl (yielded_at (k := 8) (d := 61) (by kernel_rfl) (val_at hp 8 61 (by kernel_rfl) rfl)), ?_⟩
      have h62 : a.tmps.getD 62 undef = .agg #[a0, a1, a2, a3] := val_at hp 9 62 (by kernel_rfl) rfl
      have h63 : a.tmps.getD 63 undef = .agg #[b0, b1, b2, b3] := val_at hp 10 63 (by kernel_rfl) rfl
      have s62 := slot_of (hs.trans (show _ = 79 from rfl)) (by decide) h62
      have s63 := slot_of (hs.trans (show _ = 79 from rfl)) (by decide) h63
      unfold Oper.wp
      go_simp
      have hA : Below wx.heap.size wx (wx.alloc (.cells #[a0, a1, a2, a3, b0, b1, b2, b3] 24)) := (Below.refl _ _).alloc (Nat.le_refl _) _
      have hB2 := (hBr.trans (hb.mono hBr.size)).trans (hA.mono (hBr.trans (hb.mono hBr.size)).size)
      exact Stepped.at rfl hd hA (FD_mk (.sl [ta, tb]) rfl (sl_two (World.alloc_heap_new _ _) (HIA.out _ hB2) (HIB.out _ hB2)))
    · intro a wx hb hd hs ho hp
      refine ⟨wanted_of rfl (yielded_at (k := 8) (d := 61) (by kernel_rfl) (val_at hp 8 61 (by kernel_rfl) rfl)), ?_⟩
      obtain ⟨xa, xc, xe, xl, xr⟩ := sl_at hp 11 64 ([ta, tb]) (by kernel_rfl) rfl
      unfold Oper.wp
      go_simp
      refine (op_any ⟨#[45]⟩ (one_small 45) [ta, tb] _ wx ⟨_, _, rfl, xl, xr⟩).mono ?_
      rintro e w2 ⟨v, rfl, hv, hb2⟩
      exact Stepped.at rfl hd hb2 (FD_mk (.tm (tM ta tb)) rfl hv)
    · intro a wx hb hd hs ho hp
      refine ⟨wanted_of rfl (yielded_at (k := 8) (d := 61) (by kernel_rfl) (val_at hp 8 61 (by kernel_rfl) rfl)), ?_⟩
      obtain ⟨x0, x1, x2, x3, xe, xt⟩ := tm_at hp 12 65 (tM ta tb) (by kernel_rfl) rfl
      unfold Oper.wp
      go_simp
      refine (HM1.out _ _ _ _ _ (hBr.trans (hb.mono hBr.size)) xt).mono ?_
      rintro e w2 ⟨rfl, hb2⟩
      exact Stepped.at rfl hd hb2 (FD_mk (.val (.string ms)) rfl rfl)
    · intro a wx hb hd hs ho hp
      refine ⟨wanted_of rfl (yielded_at (k := 8) (d := 61) (by kernel_rfl) (val_at hp 8 61 (by kernel_rfl) rfl)), ?_⟩
      have h3 : a.tmps.getD 3 undef = _ := (ho 3 (by kernel_rfl)).trans rfl
      have hx := HasRow.grow r3 hb
      have x0 := cells_at hx 0 _ rfl
      have x1 := cells_at hx 1 _ rfl
      have x2 := cells_at hx 2 _ rfl
      have x3 := cells_at hx 3 _ rfl
      unfold Oper.wp
      go_simp
      exact Stepped.at rfl hd (Below.refl _ _) (FD_mk (.val (.agg #[b0, b1, b2, b3])) rfl rfl)
    · intro a wx hb hd hs ho hp
      refine ⟨wanted_of rfl (yielded_at (k := 8) (d := 61) (by kernel_rfl) (val_at hp 8 61 (by kernel_rfl) rfl)), ?_⟩
      have h2 : a.tmps.getD 2 undef = _ := (ho 2 (by kernel_rfl)).trans rfl
      have hx := HasRow.grow r2 hb
      have x0 := cells_at hx 0 _ rfl
      have x1 := cells_at hx 1 _ rfl
      have x2 := cells_at hx 2 _ rfl
      have x3 := cells_at hx 3 _ rfl
      unfold Oper.wp
      go_simp
      exact Stepped.at rfl hd (Below.refl _ _) (FD_mk (.val (.agg #[a0, a1, a2, a3])) rfl rfl)
    · intro a wx hb hd hs ho hp
      refine ⟨wanted_of rfl (yielded_at (k := 8) (d := 61) (by kernel_rfl) (val_at hp 8 61 (by kernel_rfl) rfl)), ?_⟩
      have h67 : a.tmps.getD 67 undef = .agg #[b0, b1, b2, b3] := val_at hp 14 67 (by kernel_rfl) rfl
      have h68 : a.tmps.getD 68 undef = .agg #[a0, a1, a2, a3] := val_at hp 15 68 (by kernel_rfl) rfl
      have s67 := slot_of (hs.trans (show _ = 79 from rfl)) (by decide) h67
      have s68 := slot_of (hs.trans (show _ = 79 from rfl)) (by decide) h68
      unfold Oper.wp
      go_simp
      have hA : Below wx.heap.size wx (wx.alloc (.cells #[b0, b1, b2, b3, a0, a1, a2, a3] 24)) := (Below.refl _ _).alloc (Nat.le_refl _) _
      have hB2 := (hBr.trans (hb.mono hBr.size)).trans (hA.mono (hBr.trans (hb.mono hBr.size)).size)
      exact Stepped.at rfl hd hA (FD_mk (.sl [tb, ta]) rfl (sl_two (World.alloc_heap_new _ _) (HIB.out _ hB2) (HIA.out _ hB2)))
    · intro a wx hb hd hs ho hp
      refine ⟨wanted_of rfl (yielded_at (k := 8) (d := 61) (by kernel_rfl) (val_at hp 8 61 (by kernel_rfl) rfl)), ?_⟩
      obtain ⟨xa, xc, xe, xl, xr⟩ := sl_at hp 16 69 ([tb, ta]) (by kernel_rfl) rfl
      unfold Oper.wp
      go_simp
      refine (op_any ⟨#[45]⟩ (one_small 45) [tb, ta] _ wx ⟨_, _, rfl, xl, xr⟩).mono ?_
      rintro e w2 ⟨v, rfl, hv, hb2⟩
      exact Stepped.at rfl hd hb2 (FD_mk (.tm (tM tb ta)) rfl hv)
    · intro a wx hb hd hs ho hp
      refine ⟨wanted_of rfl (yielded_at (k := 8) (d := 61) (by kernel_rfl) (val_at hp 8 61 (by kernel_rfl) rfl)), ?_⟩
      obtain ⟨x0, x1, x2, x3, xe, xt⟩ := tm_at hp 17 70 (tM tb ta) (by kernel_rfl) rfl
      unfold Oper.wp
      go_simp
      refine (HM2.out _ _ _ _ _ (hBr.trans (hb.mono hBr.size)) xt).mono ?_
      rintro e w2 ⟨rfl, hb2⟩
      exact Stepped.at rfl hd hb2 (FD_mk (.val (.string mn)) rfl rfl)
    · intro a wx hb hd hs ho hp
      refine ⟨wanted_of rfl (yielded_at (k := 8) (d := 61) (by kernel_rfl) (val_at hp 8 61 (by kernel_rfl) rfl)), ?_⟩
      have h66 : a.tmps.getD 66 undef = .string ms := val_at hp 13 66 (by kernel_rfl) rfl
      have h71 : a.tmps.getD 71 undef = .string mn := val_at hp 18 71 (by kernel_rfl) rfl
      unfold Oper.wp
      go_simp
      exact Stepped.at rfl hd (Below.refl _ _) (FD_mk (.val (.bool (!ec))) rfl (by first | rfl | simp [e8]))
    · intro a wx hb hd hs ho hp
      refine ⟨wanted_of rfl (yielded_at (k := 8) (d := 61) (by kernel_rfl) (val_at hp 8 61 (by kernel_rfl) rfl)), ?_⟩
      have h2 : a.tmps.getD 2 undef = _ := (ho 2 (by kernel_rfl)).trans rfl
      have hx := HasRow.grow r2 hb
      have x0 := cells_at hx 0 _ rfl
      have x1 := cells_at hx 1 _ rfl
      have x2 := cells_at hx 2 _ rfl
      have x3 := cells_at hx 3 _ rfl
      unfold Oper.wp
      go_simp
      exact Stepped.at rfl hd (Below.refl _ _) (FD_mk (.val (.agg #[a0, a1, a2, a3])) rfl rfl)
    · intro a wx hb hd hs ho hp
      refine ⟨wanted_of rfl (yielded_at (k := 8) (d := 61) (by kernel_rfl) (val_at hp 8 61 (by kernel_rfl) rfl)), ?_⟩
      have h3 : a.tmps.getD 3 undef = _ := (ho 3 (by kernel_rfl)).trans rfl
      have hx := HasRow.grow r3 hb
      have x0 := cells_at hx 0 _ rfl
      have x1 := cells_at hx 1 _ rfl
      have x2 := cells_at hx 2 _ rfl
      have x3 := cells_at hx 3 _ rfl
      unfold Oper.wp
      go_simp
      exact Stepped.at rfl hd (Below.refl _ _) (FD_mk (.val (.agg #[b0, b1, b2, b3])) rfl rfl)
    · intro a wx hb hd hs ho hp
      refine ⟨wanted_of rfl (yielded_at (k := 8) (d := 61) (by kernel_rfl) (val_at hp 8 61 (by kernel_rfl) rfl)), ?_⟩
      have h73 : a.tmps.getD 73 undef = .agg #[a0, a1, a2, a3] := val_at hp 20 73 (by kernel_rfl) rfl
      have h74 : a.tmps.getD 74 undef = .agg #[b0, b1, b2, b3] := val_at hp 21 74 (by kernel_rfl) rfl
      unfold Oper.wp
      go_simp
      refine (HEQ.out _ (hBr.trans (hb.mono hBr.size))).mono ?_
      rintro e w2 ⟨rfl, hb2⟩
      exact Stepped.at rfl hd hb2 (FD_mk (.val (.bool ec)) rfl rfl)
    · intro a wx hb hd hs ho hp
      refine ⟨wanted_of rfl (yielded_at (k := 8) (d := 61) (by kernel_rfl) (val_at hp 8 61 (by kernel_rfl) rfl)), ?_⟩
      have h75 : a.tmps.getD 75 undef = .bool ec := val_at hp 22 75 (by kernel_rfl) rfl
      unfold Oper.wp
      go_simp
      exact Stepped.at rfl hd (Below.refl _ _) (FD_mk (.val (.bool (!ec))) rfl (rfl))
    · intro a wx hb hd hs ho hp
      refine ⟨wanted_of rfl (yielded_at (k := 8) (d := 61) (by kernel_rfl) (val_at hp 8 61 (by kernel_rfl) rfl)), ?_⟩
      have h72 : a.tmps.getD 72 undef = .bool (!ec) := val_at hp 19 72 (by kernel_rfl) rfl
      have h76 : a.tmps.getD 76 undef = .bool (!ec) := val_at hp 23 76 (by kernel_rfl) rfl
      unfold Oper.wp
      go_simp
      exact Stepped.at rfl hd (Below.refl _ _) (FD_mk (.val (.bool true)) rfl (by first | rfl | simp))
    · intro a wx hb hd hs ho hp
      refine ⟨rfl, ?_⟩
      have h61 : a.tmps.getD 61 undef = .bool true := val_at hp 8 61 (by kernel_rfl) rfl
      have h77 : a.tmps.getD 77 undef = .bool true := val_at hp 24 77 (by kernel_rfl) rfl
      unfold Oper.wp
      go_simp
      exact Stepped.at rfl hd (Below.refl _ _) (FD_mk (.val (.bool true)) rfl (by first | rfl | simp))
    · intro a wx hb hd hs ho hp
      refine ⟨rfl, ?_⟩
      have h78 : a.tmps.getD 78 undef = .bool true := val_at hp 25 78 (by kernel_rfl) rfl
      unfold Oper.wp
      go_simp
      exact Stepped.at rfl hd (Below.refl _ _) (FD_mk (.val (.bool true)) rfl (rfl))
  intro a wx hJ
  have h4 : a.tmps.getD 4 undef = .bool true := FD_at (.val (.bool true)) rfl (hJ.at_end 26 4 (by kernel_rfl))
  have hd0 : a.defers = [] := hJ.defers
  have hBf := hBr.trans (hJ.below.mono hBr.size)
  refine hK2 _ _ ?_
  clear hJ
  go_wp2_with fail
  refine bodyPost_ret (results_tmp rfl _ _ _) hd0 ?_
  rw [h4]
  exact ⟨rfl, hBf⟩
end Go.Proofs.YtikofhldihimaaaGreatDoor
