/- The law of values: its walk. -/
import Derived.Test.YtkjoimedalhnoaaGreatDoorVm
import Derived.Test.YtkjoimedalhnoaaGreatDoorLo
import Derived.Test.YtkjoimedalhnoaaGreatDoorRs
namespace Go.Proofs.YtkjoimedalhnoaaGreatDoor
open Go.RowKit

theorem tms_take {B : Nat} {w : World} {b : Nat} : ∀ {ts : List Tm} {off : Nat} (k : Nat), IsTms B w b off ts → IsTms B w b off (ts.take k)
  | [], _, k, _ => by simp only [List.take_nil, IsTms]
  | t :: ts, off, 0, _ => by simp only [List.take_zero, IsTms]
  | t :: ts, off, k + 1, h => by
    simp only [IsTms, List.take_succ_cons] at h ⊢
    obtain ⟨c0, c1, c2, c3, h0, h1, h2, h3, hi, hr⟩ := h
    exact ⟨c0, c1, c2, c3, h0, h1, h2, h3, hi, tms_take k hr⟩

set_option maxHeartbeats 1000000 in
theorem sign_any (x : Int) (w : World) : Calls Tryz.prog 23 #[.int .i64 x] w fun e w' => e = .returned (.int .i64 (max (-1) (min x 1))) ∧ w' = w := by
  go_enter Tryz.func23, Tryz.ntmps23
  go_wp2
  go_ret
  exact ⟨rfl, rfl⟩
theorem sign_len (p q : Nat) (w : World) : Calls Tryz.prog 23 #[.int .i64 ((p : Int) - (q : Int))] w fun e w' => e = .returned (.int .i64 (Lib.compareInt p q)) ∧ w' = w := by
  have e : max (-1) (min ((p : Int) - (q : Int)) 1) = Lib.compareInt p q := by
    unfold Lib.compareInt
    split <;> (try split) <;> omega
  rw [← e]
  exact sign_any _ w

set_option maxRecDepth 100000 in
set_option maxHeartbeats 20000000 in
theorem values_any (m n : Int) (hm : I64 m) (hn : I64 n) (s t : ByteArray) (hs : s.size ≤ maxLen) (ht : t.size ≤ maxLen) (us vs : List Tm) (a b : Option Addr) (ca cb : Nat) (w : World) (hlu : us.length ≤ maxLen) (hlv : vs.length ≤ maxLen) (hca : us.length ≤ ca) (hcb : vs.length ≤ cb)
    (hau : us ≠ [] → ∃ bb off, a = some ⟨bb, off, none⟩ ∧ bb < w.heap.size ∧ IsTms w.heap.size w bb off us) (hav : vs ≠ [] → ∃ bb off, b = some ⟨bb, off, none⟩ ∧ bb < w.heap.size ∧ IsTms w.heap.size w bb off vs)
    (hgl0 : 2 < w.heap.size) (htab0 : Lib.TabIs Tryz.prog w "internal/strconv.uint64pow10" .u64 Lib.pow10Tab) :
    Calls Tryz.prog 6 #[.int .i64 m, .int .i64 n, .string s, .string t, .slice a us.length ca, .slice b vs.length cb] w fun e w' => e = .returned (.bool true) ∧ Below w.heap.size w w' := by
  have HAW := Lib.hid (awake_any w hgl0 htab0)
  clear htab0
  unfold maxLen at hs ht
  go_enter Tryz.func6, Tryz.ntmps6
  go_wp2_with fail
  refine HAW.out.mono ?_
  clear HAW
  rintro e W0 ⟨rfl, hb0⟩
  have hau0 : us ≠ [] → ∃ bb off, a = some ⟨bb, off, none⟩ ∧ bb < W0.heap.size ∧ IsTms W0.heap.size W0 bb off us := fun hne => by
    obtain ⟨bb, off, h1, h2, h3⟩ := hau hne
    have := hb0.size
    exact ⟨bb, off, h1, by omega, (h3.below hb0 h2).mono hb0.size⟩
  have hav0 : vs ≠ [] → ∃ bb off, b = some ⟨bb, off, none⟩ ∧ bb < W0.heap.size ∧ IsTms W0.heap.size W0 bb off vs := fun hne => by
    obtain ⟨bb, off, h1, h2, h3⟩ := hav hne
    have := hb0.size
    exact ⟨bb, off, h1, by omega, (h3.below hb0 h2).mono hb0.size⟩
  have HS := Lib.hid (small_any us a ca W0 hlu hau0)
  obtain ⟨sa, hsa⟩ : ∃ s, decide (sizeL us 0 300 ≤ 300) = s := ⟨_, rfl⟩
  rw [hsa] at HS
  cases sa
  · go_wp2_with (go_at_call 21; refine HS.out.mono ?_; clear HS; rintro e w2 ⟨rfl, hb2⟩)
    have hBf := hb0.trans (hb2.mono hb0.size)
    go_ret
    exact ⟨rfl, hBf⟩
  go_wp2_with fail
  refine HS.out.mono ?_
  clear HS hsa
  rintro e W1 ⟨rfl, hb1⟩
  have hav1 : vs ≠ [] → ∃ bb off, b = some ⟨bb, off, none⟩ ∧ bb < W1.heap.size ∧ IsTms W1.heap.size W1 bb off vs := fun hne => by
    obtain ⟨bb, off, h1, h2, h3⟩ := hav0 hne
    have := hb1.size
    exact ⟨bb, off, h1, by omega, (h3.below hb1 h2).mono hb1.size⟩
  have hB1 := hb0.trans (hb1.mono hb0.size)
  have HS := Lib.hid (small_any vs b cb W1 hlv hav1)
  clear hb0 hb1 hau0 hav0 hav1
  obtain ⟨sb, hsb⟩ : ∃ s, decide (sizeL vs 0 300 ≤ 300) = s := ⟨_, rfl⟩
  rw [hsb] at HS
  cases sb
  · go_wp2_with (go_at_call 21; refine HS.out.mono ?_; clear HS; rintro e w2 ⟨rfl, hb2⟩)
    have hBf := hB1.trans (hb2.mono hB1.size)
    go_ret
    exact ⟨rfl, hBf⟩
  go_wp2_with fail
  refine HS.out.mono ?_
  clear HS hsb
  rintro e W2 ⟨rfl, hb2⟩
  have hB2 := hB1.trans (hb2.mono hB1.size)
  clear hB1 hb2
  go_wp2_with fail
  unfold maxLen at hlu hlv
  go_quiet (fail)
  have hU : (min (us.length : Int) 4).toNat = (us.take 4).length := by rw [List.length_take]; omega
  have hV : (min (vs.length : Int) 4).toNat = (vs.take 4).length := by rw [List.length_take]; omega
  have hU4 : (us.take 4).length ≤ 4 := by rw [List.length_take]; omega
  have hV4 : (vs.take 4).length ≤ 4 := by rw [List.length_take]; omega
  have hau2 : us.take 4 ≠ [] → ∃ bb off, a = some ⟨bb, off, none⟩ ∧ bb < w.heap.size ∧ IsTms w.heap.size w bb off (us.take 4) := fun hne => by
    obtain ⟨bb, off, h1, h2, h3⟩ := hau (fun e => hne (by rw [e]; rfl))
    exact ⟨bb, off, h1, h2, tms_take 4 h3⟩
  have hav2 : vs.take 4 ≠ [] → ∃ bb off, b = some ⟨bb, off, none⟩ ∧ bb < w.heap.size ∧ IsTms w.heap.size w bb off (vs.take 4) := fun hne => by
    obtain ⟨bb, off, h1, h2, h3⟩ := hav (fun e => hne (by rw [e]; rfl))
    exact ⟨bb, off, h1, h2, tms_take 4 h3⟩
  rw [hU, hV]
  clear hU hV hau hav
  revert hU4 hV4 hau2 hav2
  generalize us.take 4 = U
  generalize vs.take 4 = V
  intro hU4 hV4 hau hav
  generalize hW3 : World.drewN _ _ = W3
  have hB3 : Below w.heap.size w W3 := by
    rw [← hW3]
    exact ⟨hB2.os, hB2.tape, hB2.output, hB2.size, hB2.block⟩
  clear hW3 hB2 hca hcb hlu hlv
  have HAU := Lib.hid hau
  have HAV := Lib.hid hav
  have HB3 := Lib.hid hB3
  clear hau hav hB3
  go_wp2_with fail
  refine (num_exact m W3).mono ?_
  rintro e W4 ⟨rfl, hb4⟩
  have hB4 := HB3.out.trans (hb4.mono HB3.out.size)
  clear hb4 HB3
  go_wp2_with fail
  refine (num_exact n W4).mono ?_
  rintro e W5 ⟨rfl, hb5⟩
  have hB5 := hB4.trans (hb5.mono hB4.size)
  clear hb5 hB4
  go_wp2_with fail
  refine (sym_exact s W5).mono ?_
  rintro e W6 ⟨rfl, hb6⟩
  have hB6 := hB5.trans (hb6.mono hB5.size)
  clear hb6 hB5
  go_wp2_with fail
  refine (sym_exact t W6).mono ?_
  rintro e W7 ⟨rfl, hb7⟩
  have hB7 := hB6.trans (hb7.mono hB6.size)
  clear hb7 hB6
  have hB8 : Below w.heap.size w ((((W7.alloc (.cells #[.int .u8 1, .int .i64 m, .string ⟨#[]⟩, .slice none 0 0] 24)).alloc (.cells #[.int .u8 1, .int .i64 n, .string ⟨#[]⟩, .slice none 0 0] 24)).alloc (.cells #[.int .u8 2, .int .i64 0, .string s, .slice none 0 0] 24)).alloc (.cells #[.int .u8 2, .int .i64 0, .string t, .slice none 0 0] 24)) := (((hB7.alloc hB7.size _).alloc (by have := hB7.size; simp <;> omega) _).alloc (by have := hB7.size; simp <;> omega) _).alloc (by have := hB7.size; simp <;> omega) _
  have r13 : HasRow W7.heap.size #[.int .u8 1, .int .i64 m, .string ⟨#[]⟩, .slice none 0 0] ((((W7.alloc (.cells #[.int .u8 1, .int .i64 m, .string ⟨#[]⟩, .slice none 0 0] 24)).alloc (.cells #[.int .u8 1, .int .i64 n, .string ⟨#[]⟩, .slice none 0 0] 24)).alloc (.cells #[.int .u8 2, .int .i64 0, .string s, .slice none 0 0] 24)).alloc (.cells #[.int .u8 2, .int .i64 0, .string t, .slice none 0 0] 24)) := HasRow.grow (World.alloc_heap_new W7 _) ((((Below.refl _ _).alloc (Nat.le_refl _) _).alloc (by simp) _).alloc (by simp <;> omega) _)
  have r14 : HasRow (W7.heap.size + 1) #[.int .u8 1, .int .i64 n, .string ⟨#[]⟩, .slice none 0 0] ((((W7.alloc (.cells #[.int .u8 1, .int .i64 m, .string ⟨#[]⟩, .slice none 0 0] 24)).alloc (.cells #[.int .u8 1, .int .i64 n, .string ⟨#[]⟩, .slice none 0 0] 24)).alloc (.cells #[.int .u8 2, .int .i64 0, .string s, .slice none 0 0] 24)).alloc (.cells #[.int .u8 2, .int .i64 0, .string t, .slice none 0 0] 24)) := by
    have h : HasRow (W7.heap.size + 1) #[.int .u8 1, .int .i64 n, .string ⟨#[]⟩, .slice none 0 0] ((W7.alloc (.cells #[.int .u8 1, .int .i64 m, .string ⟨#[]⟩, .slice none 0 0] 24)).alloc (.cells #[.int .u8 1, .int .i64 n, .string ⟨#[]⟩, .slice none 0 0] 24)) := by
      have := World.alloc_heap_new (W7.alloc (.cells #[.int .u8 1, .int .i64 m, .string ⟨#[]⟩, .slice none 0 0] 24)) (.cells #[.int .u8 1, .int .i64 n, .string ⟨#[]⟩, .slice none 0 0] 24)
      rw [World.size_alloc] at this; exact this
    exact h.grow (((Below.refl _ _).alloc (Nat.le_refl _) _).alloc (by simp) _)
  have r15 : HasRow (W7.heap.size + 1 + 1) #[.int .u8 2, .int .i64 0, .string s, .slice none 0 0] ((((W7.alloc (.cells #[.int .u8 1, .int .i64 m, .string ⟨#[]⟩, .slice none 0 0] 24)).alloc (.cells #[.int .u8 1, .int .i64 n, .string ⟨#[]⟩, .slice none 0 0] 24)).alloc (.cells #[.int .u8 2, .int .i64 0, .string s, .slice none 0 0] 24)).alloc (.cells #[.int .u8 2, .int .i64 0, .string t, .slice none 0 0] 24)) := by
    have h : HasRow (W7.heap.size + 1 + 1) #[.int .u8 2, .int .i64 0, .string s, .slice none 0 0] (((W7.alloc (.cells #[.int .u8 1, .int .i64 m, .string ⟨#[]⟩, .slice none 0 0] 24)).alloc (.cells #[.int .u8 1, .int .i64 n, .string ⟨#[]⟩, .slice none 0 0] 24)).alloc (.cells #[.int .u8 2, .int .i64 0, .string s, .slice none 0 0] 24)) := by
      have := World.alloc_heap_new ((W7.alloc (.cells #[.int .u8 1, .int .i64 m, .string ⟨#[]⟩, .slice none 0 0] 24)).alloc (.cells #[.int .u8 1, .int .i64 n, .string ⟨#[]⟩, .slice none 0 0] 24)) (.cells #[.int .u8 2, .int .i64 0, .string s, .slice none 0 0] 24)
      rw [World.size_alloc, World.size_alloc] at this; exact this
    exact h.grow ((Below.refl _ _).alloc (Nat.le_refl _) _)
  have r16 : HasRow (W7.heap.size + 1 + 1 + 1) #[.int .u8 2, .int .i64 0, .string t, .slice none 0 0] ((((W7.alloc (.cells #[.int .u8 1, .int .i64 m, .string ⟨#[]⟩, .slice none 0 0] 24)).alloc (.cells #[.int .u8 1, .int .i64 n, .string ⟨#[]⟩, .slice none 0 0] 24)).alloc (.cells #[.int .u8 2, .int .i64 0, .string s, .slice none 0 0] 24)).alloc (.cells #[.int .u8 2, .int .i64 0, .string t, .slice none 0 0] 24)) := by
    have := World.alloc_heap_new (((W7.alloc (.cells #[.int .u8 1, .int .i64 m, .string ⟨#[]⟩, .slice none 0 0] 24)).alloc (.cells #[.int .u8 1, .int .i64 n, .string ⟨#[]⟩, .slice none 0 0] 24)).alloc (.cells #[.int .u8 2, .int .i64 0, .string s, .slice none 0 0] 24)) (.cells #[.int .u8 2, .int .i64 0, .string t, .slice none 0 0] 24)
    rw [World.size_alloc, World.size_alloc, World.size_alloc] at this; exact this
  have HB8 := Lib.hid hB8
  have HR13 := Lib.hid r13
  have HR14 := Lib.hid r14
  have HR15 := Lib.hid r15
  have HR16 := Lib.hid r16
  clear hB7 hB8 r13 r14 r15 r16
  have hnm : strCmp s t = (if Op.bytesLess s.toList t.toList then -1 else if s.toList == t.toList then 0 else 1) := rfl
  rcases (show Op.bytesLess s.toList t.toList = true ∨ (Op.bytesLess s.toList t.toList = false ∧ (s.toList == t.toList) = true) ∨ (Op.bytesLess s.toList t.toList = false ∧ (s.toList == t.toList) = false) from by cases Op.bytesLess s.toList t.toList <;> cases s.toList == t.toList <;> simp) with h1 | ⟨h1, h2⟩ | ⟨h1, h2⟩
  all_goals
    first | rw [h1, h2] at hnm | rw [h1] at hnm
    simp only [Bool.false_eq_true, if_true, if_false] at hnm
    have HNM := Lib.hid hnm
    clear hnm
    go_wp2_with fail
    first | clear h1 h2 | clear h1
    have hB8 := HB8.out
    have r13 := HR13.out
    have r14 := HR14.out
    have r15 := HR15.out
    have r16 := HR16.out
    clear HB8 HR13 HR14 HR15 HR16
    revert hB8 r13 r14 r15 r16
    generalize ((((W7.alloc (.cells #[.int .u8 1, .int .i64 m, .string ⟨#[]⟩, .slice none 0 0] 24)).alloc (.cells #[.int .u8 1, .int .i64 n, .string ⟨#[]⟩, .slice none 0 0] 24)).alloc (.cells #[.int .u8 2, .int .i64 0, .string s, .slice none 0 0] 24)).alloc (.cells #[.int .u8 2, .int .i64 0, .string t, .slice none 0 0] 24)) = W8
    generalize W7.heap.size + 1 + 1 + 1 = n16
    generalize W7.heap.size + 1 + 1 = n15
    generalize W7.heap.size + 1 = n14
    generalize W7.heap.size = n13
    intro hB8 r13 r14 r15 r16
    --REST
    have isS : ∀ W : World, IsTm W.heap.size W (.int .u8 2) (.int .i64 0) (.string s) (.slice none 0 0) (tSym s) := fun W => tm_node (by omega) (i64_mk (by omega)) hs sl_nil
    have isT : ∀ W : World, IsTm W.heap.size W (.int .u8 2) (.int .i64 0) (.string t) (.slice none 0 0) (tSym t) := fun W => tm_node (by omega) (i64_mk (by omega)) ht sl_nil
    have CN : ∀ W : World, Calls Tryz.prog 22 #[.agg #[.int .u8 1, .int .i64 m, .string ⟨#[]⟩, .slice none 0 0], .agg #[.int .u8 1, .int .i64 n, .string ⟨#[]⟩, .slice none 0 0]] W fun e W' => e = .returned (.int .i64 (Lib.compareInt m n)) ∧ Below W.heap.size W W' := fun W => by
      have h := compare_ever (num_holds (w := W) hm) (num_holds (w := W) hn) W (Below.refl _ _)
      rw [cmp_nums] at h
      exact h
    have CS : ∀ W : World, Calls Tryz.prog 22 #[.agg #[.int .u8 2, .int .i64 0, .string s, .slice none 0 0], .agg #[.int .u8 2, .int .i64 0, .string t, .slice none 0 0]] W fun e W' => e = .returned (.int .i64 (strCmp s t)) ∧ Below W.heap.size W W' := fun W => by
      have h := compare_ever (isS W) (isT W) W (Below.refl _ _)
      rw [cmp_syms] at h
      exact h
    obtain ⟨X, hX⟩ : ∃ X, Lib.compareInt m n = X := ⟨_, rfl⟩
    rw [hX] at CN
    rw [HNM.out] at CS
    have hX0 : (X == 0) = (m == n) := by rw [← hX, Bool.eq_iff_iff, beq_iff_eq, beq_iff_eq]; exact int_zero
    have hXl : m < n → X = -1 := fun h => by rw [← hX]; unfold Lib.compareInt; rw [if_pos h]
    have H_isS := Lib.hid isS
    have H_isT := Lib.hid isT
    have H_CN := Lib.hid CN
    have H_CS := Lib.hid CS
    have H_hXl := Lib.hid hXl
    clear isS isT CN CS hXl hX
    have x13_0 := cells_at r13 0 _ rfl
    have x13_1 := cells_at r13 1 _ rfl
    have x13_2 := cells_at r13 2 _ rfl
    have x13_3 := cells_at r13 3 _ rfl
    have x14_0 := cells_at r14 0 _ rfl
    have x14_1 := cells_at r14 1 _ rfl
    have x14_2 := cells_at r14 2 _ rfl
    have x14_3 := cells_at r14 3 _ rfl
    by_cases hmn : m < n
    · have hX1 := H_hXl.out hmn
      subst hX1
      have hne : (m == n) = false := by rw [beq_eq_false_iff_ne]; omega
      refine (H_CN.out W8).mono ?_
      clear x13_0 x13_1 x13_2 x13_3 x14_0 x14_1 x14_2 x14_3
      rintro e W9 ⟨rfl, hb9⟩
      have r13 := r13.grow hb9
      have r14 := r14.grow hb9
      have r15 := r15.grow hb9
      have r16 := r16.grow hb9
      have hB9 := hB8.trans (hb9.mono hB8.size)
      clear hb9 hB8
      have x13_0 := cells_at r13 0 _ rfl
      have x13_1 := cells_at r13 1 _ rfl
      have x13_2 := cells_at r13 2 _ rfl
      have x13_3 := cells_at r13 3 _ rfl
      have x14_0 := cells_at r14 0 _ rfl
      have x14_1 := cells_at r14 1 _ rfl
      have x14_2 := cells_at r14 2 _ rfl
      have x14_3 := cells_at r14 3 _ rfl
      go_wp2_with fail
      refine (H_CN.out W9).mono ?_
      clear x13_0 x13_1 x13_2 x13_3 x14_0 x14_1 x14_2 x14_3
      rintro e W10 ⟨rfl, hb10⟩
      have r13 := r13.grow hb10
      have r14 := r14.grow hb10
      have r15 := r15.grow hb10
      have r16 := r16.grow hb10
      have hB10 := hB9.trans (hb10.mono hB9.size)
      clear hb10 hB9
      have x15_0 := cells_at r15 0 _ rfl
      have x15_1 := cells_at r15 1 _ rfl
      have x15_2 := cells_at r15 2 _ rfl
      have x15_3 := cells_at r15 3 _ rfl
      have x16_0 := cells_at r16 0 _ rfl
      have x16_1 := cells_at r16 1 _ rfl
      have x16_2 := cells_at r16 2 _ rfl
      have x16_3 := cells_at r16 3 _ rfl
      go_wp2_with fail
      refine (H_CS.out W10).mono ?_
      clear x15_0 x15_1 x15_2 x15_3 x16_0 x16_1 x16_2 x16_3
      rintro e W11 ⟨rfl, hb11⟩
      have r13 := r13.grow hb11
      have r15 := r15.grow hb11
      have hB11 := hB10.trans (hb11.mono hB10.size)
      clear hb11 hB10
      have x13_0 := cells_at r13 0 _ rfl
      have x13_1 := cells_at r13 1 _ rfl
      have x13_2 := cells_at r13 2 _ rfl
      have x13_3 := cells_at r13 3 _ rfl
      have x15_0 := cells_at r15 0 _ rfl
      have x15_1 := cells_at r15 1 _ rfl
      have x15_2 := cells_at r15 2 _ rfl
      have x15_3 := cells_at r15 3 _ rfl
      go_wp2_with fail
      have hAl : Below W11.heap.size W11 (W11.alloc (.cells #[.int .u8 1, .int .i64 m, .string ⟨#[]⟩, .slice none 0 0, .int .u8 2, .int .i64 0, .string s, .slice none 0 0] 24)) := (Below.refl _ _).alloc (Nat.le_refl _) _
      have hRi := rises_true [tNum m, tSym s] _ _ (sl_two (World.alloc_heap_new W11 (.cells #[.int .u8 1, .int .i64 m, .string ⟨#[]⟩, .slice none 0 0, .int .u8 2, .int .i64 0, .string s, .slice none 0 0] 24)) (num_holds hm) (H_isS.out _)) (rises_two m s)
      have r13 := r13.grow hAl
      have r15 := r15.grow hAl
      have hB11 := hB11.trans (hAl.mono hB11.size)
      clear hAl
      refine (hRi).mono ?_
      clear x13_0 x13_1 x13_2 x13_3 x15_0 x15_1 x15_2 x15_3
      rintro e W12 ⟨rfl, hb12⟩
      have r13 := r13.grow hb12
      have r15 := r15.grow hb12
      have hB12 := hB11.trans (hb12.mono hB11.size)
      clear hb12 hB11
      clear hRi
      go_wp2_with fail
      refine (fun_exact s a U.length ca W12).mono ?_
      rintro e W13 ⟨rfl, hb13⟩
      have r13 := r13.grow hb13
      have r15 := r15.grow hb13
      have hB13 := hB12.trans (hb13.mono hB12.size)
      clear hb13 hB12
      go_wp2_with fail
      refine (fun_exact t b V.length cb W13).mono ?_
      rintro e W14 ⟨rfl, hb14⟩
      have r13 := r13.grow hb14
      have r15 := r15.grow hb14
      have hB14 := hB13.trans (hb14.mono hB13.size)
      clear hb14 hB13
      have hAl : Below W14.heap.size W14 ((W14.alloc (.cells #[.int .u8 4, .int .i64 0, .string s, .slice a U.length ca] 24)).alloc (.cells #[.int .u8 4, .int .i64 0, .string t, .slice b V.length cb] 24)) := ((Below.refl _ _).alloc (Nat.le_refl _) _).alloc (by simp) _
      have r18 : HasRow W14.heap.size #[.int .u8 4, .int .i64 0, .string s, .slice a U.length ca] ((W14.alloc (.cells #[.int .u8 4, .int .i64 0, .string s, .slice a U.length ca] 24)).alloc (.cells #[.int .u8 4, .int .i64 0, .string t, .slice b V.length cb] 24)) := HasRow.grow (World.alloc_heap_new W14 _) ((Below.refl _ _).alloc (Nat.le_refl _) _)
      have r19 : HasRow (W14.heap.size + 1) #[.int .u8 4, .int .i64 0, .string t, .slice b V.length cb] ((W14.alloc (.cells #[.int .u8 4, .int .i64 0, .string s, .slice a U.length ca] 24)).alloc (.cells #[.int .u8 4, .int .i64 0, .string t, .slice b V.length cb] 24)) := by
        have := World.alloc_heap_new (W14.alloc (.cells #[.int .u8 4, .int .i64 0, .string s, .slice a U.length ca] 24)) (.cells #[.int .u8 4, .int .i64 0, .string t, .slice b V.length cb] 24)
        rw [World.size_alloc] at this; exact this
      have r13 := r13.grow hAl
      have r15 := r15.grow hAl
      have hB15 := hB14.trans (hAl.mono hB14.size)
      clear hAl hB14
      have HH15 := Lib.hid (And.intro hB15 (And.intro r13 (And.intro r15 (And.intro r18 r19))))
      clear hB15 r13 r15 r18 r19
      go_wp2_with fail
      refine (sign_len _ _ _).mono ?_
      rintro e wS ⟨rfl, rfl⟩
      have hB15 := HH15.out.1
      have r13 := HH15.out.2.1
      have r15 := HH15.out.2.2.1
      have r18 := HH15.out.2.2.2.1
      have r19 := HH15.out.2.2.2.2
      clear HH15
      revert hB15 r13 r15 r18 r19
      generalize ((W14.alloc (.cells #[.int .u8 4, .int .i64 0, .string s, .slice a U.length ca] 24)).alloc (.cells #[.int .u8 4, .int .i64 0, .string t, .slice b V.length cb] 24)) = W15
      generalize W14.heap.size + 1 = n19
      generalize W14.heap.size = n18
      intro hB15 r13 r15 r18 r19
      obtain ⟨C, hC⟩ : ∃ C, Lib.compareInt U.length V.length = C := ⟨_, rfl⟩
      have hTT := cmp_funs s t U V
      rw [HNM.out] at hTT
      have hWs := Want.start (us := U) (us' := V) (b := strCmp s t) (x := orI C (strCmp s t)) (by rw [hC])
      rw [HNM.out] at hWs
      rw [← hTT] at hWs
      rw [hC]
      obtain ⟨TT, hTTe⟩ : ∃ T, Tm.cmp (tFun s U) (tFun t V) = T := ⟨_, rfl⟩
      rw [hTTe] at hWs
      have HWs := Lib.hid hWs
      have HTT := Lib.hid hTTe
      have HB15 := Lib.hid hB15
      have HR13 := Lib.hid r13
      have HR15 := Lib.hid r15
      have HR18 := Lib.hid r18
      have HR19 := Lib.hid r19
      clear hWs hTTe hTT hC hB15 r13 r15 r18 r19
      by_cases hC0 : C = 0
      all_goals
        first | subst hC0 | (have hC1 : (C == 0) = false := by simpa using hC0)
        go_wp2_with fail
        go_loopw [20, 21] (fun x i wr => ∃ (j : Nat) (xv : Int), i = .int .i64 j ∧ x = .int .i64 xv ∧ Want U V TT j xv ∧ Below w.heap.size w wr ∧ HasRow n13 #[.int .u8 1, .int .i64 m, .string ⟨#[]⟩, .slice none 0 0] wr ∧ HasRow n15 #[.int .u8 2, .int .i64 0, .string s, .slice none 0 0] wr ∧ HasRow n18 #[.int .u8 4, .int .i64 0, .string s, .slice a U.length ca] wr ∧ HasRow n19 #[.int .u8 4, .int .i64 0, .string t, .slice b V.length cb] wr) (fun _ i _ => U.length - (intOf i).toNat)
        case atStart => first | exact ⟨0, _, by go_num, rfl, HWs.out, HB15.out, HR13.out, HR15.out, HR18.out, HR19.out⟩ | exact ⟨0, C, by go_num, rfl, by have h := HWs.out; rwa [orI_l hC0] at h, HB15.out, HR13.out, HR15.out, HR18.out, HR19.out⟩
        case round =>
          obtain ⟨j, xv, rfl, rfl, hW, hBr, r13, r15, r18, r19⟩ := hrel
          have HW := Lib.hid hW
          have hjl := hW.le
          have i1 : (0 : Int) ≤ (j : Int) := by omega
          clear hW
          have HRx19 := Lib.hid r19
          by_cases g1 : j < U.length
          · by_cases g2 : xv = 0
            · by_cases g3 : j < V.length
              · subst g2
                obtain ⟨bb, off, rfl, hbb, hI⟩ := HAU.out (by intro e; rw [e] at g1; simp at g1)
                obtain ⟨bb', off', rfl, hbb', hI'⟩ := HAV.out (by intro e; rw [e] at g3; simp at g3)
                obtain ⟨p0, p1, p2, p3, e0, e1, e2, e3, hc⟩ := hI.at j g1
                obtain ⟨q0, q1, q2, q3, f0, f1, f2, f3, hd⟩ := hI'.at j g3
                have y0 := (hBr.cell (p := ⟨bb, off + j * 4, none⟩) hbb).trans e0
                have y1 := (hBr.cell (p := ⟨bb, off + j * 4 + 1, none⟩) hbb).trans e1
                have y2 := (hBr.cell (p := ⟨bb, off + j * 4 + 2, none⟩) hbb).trans e2
                have y3 := (hBr.cell (p := ⟨bb, off + j * 4 + 3, none⟩) hbb).trans e3
                have z0 := (hBr.cell (p := ⟨bb', off' + j * 4, none⟩) hbb').trans f0
                have z1 := (hBr.cell (p := ⟨bb', off' + j * 4 + 1, none⟩) hbb').trans f1
                have z2 := (hBr.cell (p := ⟨bb', off' + j * 4 + 2, none⟩) hbb').trans f2
                have z3 := (hBr.cell (p := ⟨bb', off' + j * 4 + 3, none⟩) hbb').trans f3
                have hBd : Below w.heap.size w wr.drew := hBr.drew
                have HS := Lib.hid (compare_any w.heap.size U[j] V[j] p0 p1 p2 p3 q0 q1 q2 q3 wr.drew (hc.below hBd) (hd.below hBd) hBd.size)
                have HWN := Lib.hid (HW.out.next g1 g3)
                have HBD := Lib.hid hBd
                have HG := Lib.hid (And.intro r13 (And.intro r15 (And.intro r18 r19)))
                clear e0 e1 e2 e3 f0 f1 f2 f3 hc hd hBr hBd r13 r15 r18 r19
                have i2 : (j : Int) < (U.length : Int) := by omega
                have i3 : (j : Int) < (V.length : Int) := by omega
                go_wp2_with fail
                go_still_tail 8, (by kernel_rfl)
                change wpList _ _ _ _ _ wr.drew
                clear y0 y1 y2 y3 z0 z1 z2 z3
                go_wp2_with (go_at_call 22; refine HS.out.mono ?_)
                clear HS
                rintro e Wn ⟨rfl, hbn⟩
                have hbn' : Below wr.heap.size wr Wn := ⟨hbn.os, hbn.tape, hbn.output, hbn.size, hbn.block⟩
                have hBn := HBD.out.trans (hbn.mono HBD.out.size)
                have k13 := HG.out.1.grow hbn'
                have k15 := HG.out.2.1.grow hbn'
                have k18 := HG.out.2.2.1.grow hbn'
                have k19 := HG.out.2.2.2.grow hbn'
                clear hbn hbn'
                go_wp2_with fail
                go_roundw
                case rel => exact ⟨j + 1, Tm.cmp U[j] V[j], by go_num, rfl, HWN.out, hBn, k13, k15, k18, k19⟩
                case measure => simp [intOf]; omega
              · subst g2
                have hT : TT = 0 := HW.out.stop (Or.inr (Or.inr (by omega)))
                have hz := hBr.size
                have iF : IsTm wr.heap.size wr (.int .u8 4) (.int .i64 0) (.string s) (.slice a U.length ca) (tFun s U) := isTm_mk (by omega) (i64_mk (by omega)) hs (by unfold maxLen; omega) (fun hne => by obtain ⟨bb, off, h1, h2, h3⟩ := HAU.out hne; exact ⟨bb, off, h1, by omega, (h3.below hBr h2).mono hz⟩)
                have iG : IsTm wr.heap.size wr (.int .u8 4) (.int .i64 0) (.string t) (.slice b V.length cb) (tFun t V) := isTm_mk (by omega) (i64_mk (by omega)) ht (by unfold maxLen; omega) (fun hne => by obtain ⟨bb, off, h1, h2, h3⟩ := HAV.out hne; exact ⟨bb, off, h1, by omega, (h3.below hBr h2).mono hz⟩)
                have hCF := compare_ever iF iG wr (Below.refl _ _)
                rw [HTT.out, hT] at hCF
                have HCF := Lib.hid hCF
                have HIF := Lib.hid iF
                clear hCF iF iG hT hz r19
                have x18_0 := cells_at r18 0 _ rfl
                have x18_1 := cells_at r18 1 _ rfl
                have x18_2 := cells_at r18 2 _ rfl
                have x18_3 := cells_at r18 3 _ rfl
                have x19_0 := cells_at HRx19.out 0 _ rfl
                have x19_1 := cells_at HRx19.out 1 _ rfl
                have x19_2 := cells_at HRx19.out 2 _ rfl
                have x19_3 := cells_at HRx19.out 3 _ rfl
                go_wp2_with fail
                refine HCF.out.mono ?_
                clear HCF x18_0 x18_1 x18_2 x18_3 x19_0 x19_1 x19_2 x19_3
                rintro e Wz ⟨rfl, hbz⟩
                have r13 := r13.grow hbz
                have r15 := r15.grow hbz
                have r18 := r18.grow hbz
                have hBz := hBr.trans (hbz.mono hBr.size)
                have iF := (HIF.out.below hbz).mono hbz.size
                clear hbz hBr HIF
                have x13_0 := cells_at r13 0 _ rfl
                have x13_1 := cells_at r13 1 _ rfl
                have x13_2 := cells_at r13 2 _ rfl
                have x13_3 := cells_at r13 3 _ rfl
                have x15_0 := cells_at r15 0 _ rfl
                have x15_1 := cells_at r15 1 _ rfl
                have x15_2 := cells_at r15 2 _ rfl
                have x15_3 := cells_at r15 3 _ rfl
                have x18_0 := cells_at r18 0 _ rfl
                have x18_1 := cells_at r18 1 _ rfl
                have x18_2 := cells_at r18 2 _ rfl
                have x18_3 := cells_at r18 3 _ rfl
                go_wp2_with fail
                have hAl : Below Wz.heap.size Wz (Wz.alloc (.cells #[.int .u8 1, .int .i64 m, .string ⟨#[]⟩, .slice none 0 0, .int .u8 2, .int .i64 0, .string s, .slice none 0 0, .int .u8 4, .int .i64 0, .string s, .slice a U.length ca] 24)) := (Below.refl _ _).alloc (Nat.le_refl _) _
                have hRi := rises_true [tNum m, tSym s, tFun s U] _ _ (sl_three (World.alloc_heap_new Wz (.cells #[.int .u8 1, .int .i64 m, .string ⟨#[]⟩, .slice none 0 0, .int .u8 2, .int .i64 0, .string s, .slice none 0 0, .int .u8 4, .int .i64 0, .string s, .slice a U.length ca] 24)) (num_holds hm) (H_isS.out _) ((iF.below hAl).mono hAl.size)) (rises_tri m s s U)
                have hBy := hBz.trans (hAl.mono hBz.size)
                refine hRi.mono ?_
                clear hRi hAl iF x13_0 x13_1 x13_2 x13_3 x15_0 x15_1 x15_2 x15_3 x18_0 x18_1 x18_2 x18_3
                rintro e Wy ⟨rfl, hby⟩
                have hBf := hBy.trans (hby.mono hBy.size)
                clear hby hBy hBz r13 r15 r18
                go_wp2_with fail
                go_ret
                exact ⟨rfl, hBf⟩
            · have g4 : (xv == 0) = false := by simpa using g2
              have hT : TT = xv := HW.out.stop (Or.inl g2)
              have hz := hBr.size
              have iF : IsTm wr.heap.size wr (.int .u8 4) (.int .i64 0) (.string s) (.slice a U.length ca) (tFun s U) := isTm_mk (by omega) (i64_mk (by omega)) hs (by unfold maxLen; omega) (fun hne => by obtain ⟨bb, off, h1, h2, h3⟩ := HAU.out hne; exact ⟨bb, off, h1, by omega, (h3.below hBr h2).mono hz⟩)
              have iG : IsTm wr.heap.size wr (.int .u8 4) (.int .i64 0) (.string t) (.slice b V.length cb) (tFun t V) := isTm_mk (by omega) (i64_mk (by omega)) ht (by unfold maxLen; omega) (fun hne => by obtain ⟨bb, off, h1, h2, h3⟩ := HAV.out hne; exact ⟨bb, off, h1, by omega, (h3.below hBr h2).mono hz⟩)
              have hCF := compare_ever iF iG wr (Below.refl _ _)
              rw [HTT.out, hT] at hCF
              have HCF := Lib.hid hCF
              have HIF := Lib.hid iF
              clear hCF iF iG hT hz r19
              have x18_0 := cells_at r18 0 _ rfl
              have x18_1 := cells_at r18 1 _ rfl
              have x18_2 := cells_at r18 2 _ rfl
              have x18_3 := cells_at r18 3 _ rfl
              have x19_0 := cells_at HRx19.out 0 _ rfl
              have x19_1 := cells_at HRx19.out 1 _ rfl
              have x19_2 := cells_at HRx19.out 2 _ rfl
              have x19_3 := cells_at HRx19.out 3 _ rfl
              go_wp2_with fail
              refine HCF.out.mono ?_
              clear HCF x18_0 x18_1 x18_2 x18_3 x19_0 x19_1 x19_2 x19_3
              rintro e Wz ⟨rfl, hbz⟩
              have r13 := r13.grow hbz
              have r15 := r15.grow hbz
              have r18 := r18.grow hbz
              have hBz := hBr.trans (hbz.mono hBr.size)
              have iF := (HIF.out.below hbz).mono hbz.size
              clear hbz hBr HIF
              have x13_0 := cells_at r13 0 _ rfl
              have x13_1 := cells_at r13 1 _ rfl
              have x13_2 := cells_at r13 2 _ rfl
              have x13_3 := cells_at r13 3 _ rfl
              have x15_0 := cells_at r15 0 _ rfl
              have x15_1 := cells_at r15 1 _ rfl
              have x15_2 := cells_at r15 2 _ rfl
              have x15_3 := cells_at r15 3 _ rfl
              have x18_0 := cells_at r18 0 _ rfl
              have x18_1 := cells_at r18 1 _ rfl
              have x18_2 := cells_at r18 2 _ rfl
              have x18_3 := cells_at r18 3 _ rfl
              go_wp2_with fail
              have hAl : Below Wz.heap.size Wz (Wz.alloc (.cells #[.int .u8 1, .int .i64 m, .string ⟨#[]⟩, .slice none 0 0, .int .u8 2, .int .i64 0, .string s, .slice none 0 0, .int .u8 4, .int .i64 0, .string s, .slice a U.length ca] 24)) := (Below.refl _ _).alloc (Nat.le_refl _) _
              have hRi := rises_true [tNum m, tSym s, tFun s U] _ _ (sl_three (World.alloc_heap_new Wz (.cells #[.int .u8 1, .int .i64 m, .string ⟨#[]⟩, .slice none 0 0, .int .u8 2, .int .i64 0, .string s, .slice none 0 0, .int .u8 4, .int .i64 0, .string s, .slice a U.length ca] 24)) (num_holds hm) (H_isS.out _) ((iF.below hAl).mono hAl.size)) (rises_tri m s s U)
              have hBy := hBz.trans (hAl.mono hBz.size)
              refine hRi.mono ?_
              clear hRi hAl iF x13_0 x13_1 x13_2 x13_3 x15_0 x15_1 x15_2 x15_3 x18_0 x18_1 x18_2 x18_3
              rintro e Wy ⟨rfl, hby⟩
              have hBf := hBy.trans (hby.mono hBy.size)
              clear hby hBy hBz r13 r15 r18
              go_wp2_with fail
              go_ret
              exact ⟨rfl, hBf⟩
          · have g5 : U.length ≤ j := by omega
            have hT : TT = xv := HW.out.stop (Or.inr (Or.inl g5))
            have hz := hBr.size
            have iF : IsTm wr.heap.size wr (.int .u8 4) (.int .i64 0) (.string s) (.slice a U.length ca) (tFun s U) := isTm_mk (by omega) (i64_mk (by omega)) hs (by unfold maxLen; omega) (fun hne => by obtain ⟨bb, off, h1, h2, h3⟩ := HAU.out hne; exact ⟨bb, off, h1, by omega, (h3.below hBr h2).mono hz⟩)
            have iG : IsTm wr.heap.size wr (.int .u8 4) (.int .i64 0) (.string t) (.slice b V.length cb) (tFun t V) := isTm_mk (by omega) (i64_mk (by omega)) ht (by unfold maxLen; omega) (fun hne => by obtain ⟨bb, off, h1, h2, h3⟩ := HAV.out hne; exact ⟨bb, off, h1, by omega, (h3.below hBr h2).mono hz⟩)
            have hCF := compare_ever iF iG wr (Below.refl _ _)
            rw [HTT.out, hT] at hCF
            have HCF := Lib.hid hCF
            have HIF := Lib.hid iF
            clear hCF iF iG hT hz r19
            have x18_0 := cells_at r18 0 _ rfl
            have x18_1 := cells_at r18 1 _ rfl
            have x18_2 := cells_at r18 2 _ rfl
            have x18_3 := cells_at r18 3 _ rfl
            have x19_0 := cells_at HRx19.out 0 _ rfl
            have x19_1 := cells_at HRx19.out 1 _ rfl
            have x19_2 := cells_at HRx19.out 2 _ rfl
            have x19_3 := cells_at HRx19.out 3 _ rfl
            go_wp2_with fail
            refine HCF.out.mono ?_
            clear HCF x18_0 x18_1 x18_2 x18_3 x19_0 x19_1 x19_2 x19_3
            rintro e Wz ⟨rfl, hbz⟩
            have r13 := r13.grow hbz
            have r15 := r15.grow hbz
            have r18 := r18.grow hbz
            have hBz := hBr.trans (hbz.mono hBr.size)
            have iF := (HIF.out.below hbz).mono hbz.size
            clear hbz hBr HIF
            have x13_0 := cells_at r13 0 _ rfl
            have x13_1 := cells_at r13 1 _ rfl
            have x13_2 := cells_at r13 2 _ rfl
            have x13_3 := cells_at r13 3 _ rfl
            have x15_0 := cells_at r15 0 _ rfl
            have x15_1 := cells_at r15 1 _ rfl
            have x15_2 := cells_at r15 2 _ rfl
            have x15_3 := cells_at r15 3 _ rfl
            have x18_0 := cells_at r18 0 _ rfl
            have x18_1 := cells_at r18 1 _ rfl
            have x18_2 := cells_at r18 2 _ rfl
            have x18_3 := cells_at r18 3 _ rfl
            go_wp2_with fail
            have hAl : Below Wz.heap.size Wz (Wz.alloc (.cells #[.int .u8 1, .int .i64 m, .string ⟨#[]⟩, .slice none 0 0, .int .u8 2, .int .i64 0, .string s, .slice none 0 0, .int .u8 4, .int .i64 0, .string s, .slice a U.length ca] 24)) := (Below.refl _ _).alloc (Nat.le_refl _) _
            have hRi := rises_true [tNum m, tSym s, tFun s U] _ _ (sl_three (World.alloc_heap_new Wz (.cells #[.int .u8 1, .int .i64 m, .string ⟨#[]⟩, .slice none 0 0, .int .u8 2, .int .i64 0, .string s, .slice none 0 0, .int .u8 4, .int .i64 0, .string s, .slice a U.length ca] 24)) (num_holds hm) (H_isS.out _) ((iF.below hAl).mono hAl.size)) (rises_tri m s s U)
            have hBy := hBz.trans (hAl.mono hBz.size)
            refine hRi.mono ?_
            clear hRi hAl iF x13_0 x13_1 x13_2 x13_3 x15_0 x15_1 x15_2 x15_3 x18_0 x18_1 x18_2 x18_3
            rintro e Wy ⟨rfl, hby⟩
            have hBf := hBy.trans (hby.mono hBy.size)
            clear hby hBy hBz r13 r15 r18
            go_wp2_with fail
            go_ret
            exact ⟨rfl, hBf⟩
    · clear H_hXl
      refine (H_CN.out W8).mono ?_
      clear x13_0 x13_1 x13_2 x13_3 x14_0 x14_1 x14_2 x14_3
      rintro e W9 ⟨rfl, hb9⟩
      have r13 := r13.grow hb9
      have r14 := r14.grow hb9
      have r15 := r15.grow hb9
      have r16 := r16.grow hb9
      have hB9 := hB8.trans (hb9.mono hB8.size)
      clear hb9 hB8
      have x15_0 := cells_at r15 0 _ rfl
      have x15_1 := cells_at r15 1 _ rfl
      have x15_2 := cells_at r15 2 _ rfl
      have x15_3 := cells_at r15 3 _ rfl
      have x16_0 := cells_at r16 0 _ rfl
      have x16_1 := cells_at r16 1 _ rfl
      have x16_2 := cells_at r16 2 _ rfl
      have x16_3 := cells_at r16 3 _ rfl
      go_wp2_with fail
      refine (H_CS.out W9).mono ?_
      clear x15_0 x15_1 x15_2 x15_3 x16_0 x16_1 x16_2 x16_3
      rintro e W11 ⟨rfl, hb11⟩
      have r13 := r13.grow hb11
      have r15 := r15.grow hb11
      have hB11 := hB9.trans (hb11.mono hB9.size)
      clear hb11 hB9
      have x13_0 := cells_at r13 0 _ rfl
      have x13_1 := cells_at r13 1 _ rfl
      have x13_2 := cells_at r13 2 _ rfl
      have x13_3 := cells_at r13 3 _ rfl
      have x15_0 := cells_at r15 0 _ rfl
      have x15_1 := cells_at r15 1 _ rfl
      have x15_2 := cells_at r15 2 _ rfl
      have x15_3 := cells_at r15 3 _ rfl
      go_wp2_with fail
      have hAl : Below W11.heap.size W11 (W11.alloc (.cells #[.int .u8 1, .int .i64 m, .string ⟨#[]⟩, .slice none 0 0, .int .u8 2, .int .i64 0, .string s, .slice none 0 0] 24)) := (Below.refl _ _).alloc (Nat.le_refl _) _
      have hRi := rises_true [tNum m, tSym s] _ _ (sl_two (World.alloc_heap_new W11 (.cells #[.int .u8 1, .int .i64 m, .string ⟨#[]⟩, .slice none 0 0, .int .u8 2, .int .i64 0, .string s, .slice none 0 0] 24)) (num_holds hm) (H_isS.out _)) (rises_two m s)
      have r13 := r13.grow hAl
      have r15 := r15.grow hAl
      have hB11 := hB11.trans (hAl.mono hB11.size)
      clear hAl
      refine (hRi).mono ?_
      clear x13_0 x13_1 x13_2 x13_3 x15_0 x15_1 x15_2 x15_3
      rintro e W12 ⟨rfl, hb12⟩
      have r13 := r13.grow hb12
      have r15 := r15.grow hb12
      have hB12 := hB11.trans (hb12.mono hB11.size)
      clear hb12 hB11
      clear hRi
      go_wp2_with fail
      refine (fun_exact s a U.length ca W12).mono ?_
      rintro e W13 ⟨rfl, hb13⟩
      have r13 := r13.grow hb13
      have r15 := r15.grow hb13
      have hB13 := hB12.trans (hb13.mono hB12.size)
      clear hb13 hB12
      go_wp2_with fail
      refine (fun_exact t b V.length cb W13).mono ?_
      rintro e W14 ⟨rfl, hb14⟩
      have r13 := r13.grow hb14
      have r15 := r15.grow hb14
      have hB14 := hB13.trans (hb14.mono hB13.size)
      clear hb14 hB13
      have hAl : Below W14.heap.size W14 ((W14.alloc (.cells #[.int .u8 4, .int .i64 0, .string s, .slice a U.length ca] 24)).alloc (.cells #[.int .u8 4, .int .i64 0, .string t, .slice b V.length cb] 24)) := ((Below.refl _ _).alloc (Nat.le_refl _) _).alloc (by simp) _
      have r18 : HasRow W14.heap.size #[.int .u8 4, .int .i64 0, .string s, .slice a U.length ca] ((W14.alloc (.cells #[.int .u8 4, .int .i64 0, .string s, .slice a U.length ca] 24)).alloc (.cells #[.int .u8 4, .int .i64 0, .string t, .slice b V.length cb] 24)) := HasRow.grow (World.alloc_heap_new W14 _) ((Below.refl _ _).alloc (Nat.le_refl _) _)
      have r19 : HasRow (W14.heap.size + 1) #[.int .u8 4, .int .i64 0, .string t, .slice b V.length cb] ((W14.alloc (.cells #[.int .u8 4, .int .i64 0, .string s, .slice a U.length ca] 24)).alloc (.cells #[.int .u8 4, .int .i64 0, .string t, .slice b V.length cb] 24)) := by
        have := World.alloc_heap_new (W14.alloc (.cells #[.int .u8 4, .int .i64 0, .string s, .slice a U.length ca] 24)) (.cells #[.int .u8 4, .int .i64 0, .string t, .slice b V.length cb] 24)
        rw [World.size_alloc] at this; exact this
      have r13 := r13.grow hAl
      have r15 := r15.grow hAl
      have hB15 := hB14.trans (hAl.mono hB14.size)
      clear hAl hB14
      have HH15 := Lib.hid (And.intro hB15 (And.intro r13 (And.intro r15 (And.intro r18 r19))))
      clear hB15 r13 r15 r18 r19
      go_wp2_with fail
      refine (sign_len _ _ _).mono ?_
      rintro e wS ⟨rfl, rfl⟩
      have hB15 := HH15.out.1
      have r13 := HH15.out.2.1
      have r15 := HH15.out.2.2.1
      have r18 := HH15.out.2.2.2.1
      have r19 := HH15.out.2.2.2.2
      clear HH15
      revert hB15 r13 r15 r18 r19
      generalize ((W14.alloc (.cells #[.int .u8 4, .int .i64 0, .string s, .slice a U.length ca] 24)).alloc (.cells #[.int .u8 4, .int .i64 0, .string t, .slice b V.length cb] 24)) = W15
      generalize W14.heap.size + 1 = n19
      generalize W14.heap.size = n18
      intro hB15 r13 r15 r18 r19
      obtain ⟨C, hC⟩ : ∃ C, Lib.compareInt U.length V.length = C := ⟨_, rfl⟩
      have hTT := cmp_funs s t U V
      rw [HNM.out] at hTT
      have hWs := Want.start (us := U) (us' := V) (b := strCmp s t) (x := orI C (strCmp s t)) (by rw [hC])
      rw [HNM.out] at hWs
      rw [← hTT] at hWs
      rw [hC]
      obtain ⟨TT, hTTe⟩ : ∃ T, Tm.cmp (tFun s U) (tFun t V) = T := ⟨_, rfl⟩
      rw [hTTe] at hWs
      have HWs := Lib.hid hWs
      have HTT := Lib.hid hTTe
      have HB15 := Lib.hid hB15
      have HR13 := Lib.hid r13
      have HR15 := Lib.hid r15
      have HR18 := Lib.hid r18
      have HR19 := Lib.hid r19
      clear hWs hTTe hTT hC hB15 r13 r15 r18 r19
      by_cases hC0 : C = 0
      all_goals
        first | subst hC0 | (have hC1 : (C == 0) = false := by simpa using hC0)
        go_wp2_with fail
        go_loopw [20, 21] (fun x i wr => ∃ (j : Nat) (xv : Int), i = .int .i64 j ∧ x = .int .i64 xv ∧ Want U V TT j xv ∧ Below w.heap.size w wr ∧ HasRow n13 #[.int .u8 1, .int .i64 m, .string ⟨#[]⟩, .slice none 0 0] wr ∧ HasRow n15 #[.int .u8 2, .int .i64 0, .string s, .slice none 0 0] wr ∧ HasRow n18 #[.int .u8 4, .int .i64 0, .string s, .slice a U.length ca] wr ∧ HasRow n19 #[.int .u8 4, .int .i64 0, .string t, .slice b V.length cb] wr) (fun _ i _ => U.length - (intOf i).toNat)
        case atStart => first | exact ⟨0, _, by go_num, rfl, HWs.out, HB15.out, HR13.out, HR15.out, HR18.out, HR19.out⟩ | exact ⟨0, C, by go_num, rfl, by have h := HWs.out; rwa [orI_l hC0] at h, HB15.out, HR13.out, HR15.out, HR18.out, HR19.out⟩
        case round =>
          obtain ⟨j, xv, rfl, rfl, hW, hBr, r13, r15, r18, r19⟩ := hrel
          have HW := Lib.hid hW
          have hjl := hW.le
          have i1 : (0 : Int) ≤ (j : Int) := by omega
          clear hW
          have HRx19 := Lib.hid r19
          by_cases g1 : j < U.length
          · by_cases g2 : xv = 0
            · by_cases g3 : j < V.length
              · subst g2
                obtain ⟨bb, off, rfl, hbb, hI⟩ := HAU.out (by intro e; rw [e] at g1; simp at g1)
                obtain ⟨bb', off', rfl, hbb', hI'⟩ := HAV.out (by intro e; rw [e] at g3; simp at g3)
                obtain ⟨p0, p1, p2, p3, e0, e1, e2, e3, hc⟩ := hI.at j g1
                obtain ⟨q0, q1, q2, q3, f0, f1, f2, f3, hd⟩ := hI'.at j g3
                have y0 := (hBr.cell (p := ⟨bb, off + j * 4, none⟩) hbb).trans e0
                have y1 := (hBr.cell (p := ⟨bb, off + j * 4 + 1, none⟩) hbb).trans e1
                have y2 := (hBr.cell (p := ⟨bb, off + j * 4 + 2, none⟩) hbb).trans e2
                have y3 := (hBr.cell (p := ⟨bb, off + j * 4 + 3, none⟩) hbb).trans e3
                have z0 := (hBr.cell (p := ⟨bb', off' + j * 4, none⟩) hbb').trans f0
                have z1 := (hBr.cell (p := ⟨bb', off' + j * 4 + 1, none⟩) hbb').trans f1
                have z2 := (hBr.cell (p := ⟨bb', off' + j * 4 + 2, none⟩) hbb').trans f2
                have z3 := (hBr.cell (p := ⟨bb', off' + j * 4 + 3, none⟩) hbb').trans f3
                have hBd : Below w.heap.size w wr.drew := hBr.drew
                have HS := Lib.hid (compare_any w.heap.size U[j] V[j] p0 p1 p2 p3 q0 q1 q2 q3 wr.drew (hc.below hBd) (hd.below hBd) hBd.size)
                have HWN := Lib.hid (HW.out.next g1 g3)
                have HBD := Lib.hid hBd
                have HG := Lib.hid (And.intro r13 (And.intro r15 (And.intro r18 r19)))
                clear e0 e1 e2 e3 f0 f1 f2 f3 hc hd hBr hBd r13 r15 r18 r19
                have i2 : (j : Int) < (U.length : Int) := by omega
                have i3 : (j : Int) < (V.length : Int) := by omega
                go_wp2_with fail
                go_still_tail 8, (by kernel_rfl)
                change wpList _ _ _ _ _ wr.drew
                clear y0 y1 y2 y3 z0 z1 z2 z3
                go_wp2_with (go_at_call 22; refine HS.out.mono ?_)
                clear HS
                rintro e Wn ⟨rfl, hbn⟩
                have hbn' : Below wr.heap.size wr Wn := ⟨hbn.os, hbn.tape, hbn.output, hbn.size, hbn.block⟩
                have hBn := HBD.out.trans (hbn.mono HBD.out.size)
                have k13 := HG.out.1.grow hbn'
                have k15 := HG.out.2.1.grow hbn'
                have k18 := HG.out.2.2.1.grow hbn'
                have k19 := HG.out.2.2.2.grow hbn'
                clear hbn hbn'
                go_wp2_with fail
                go_roundw
                case rel => exact ⟨j + 1, Tm.cmp U[j] V[j], by go_num, rfl, HWN.out, hBn, k13, k15, k18, k19⟩
                case measure => simp [intOf]; omega
              · subst g2
                have hT : TT = 0 := HW.out.stop (Or.inr (Or.inr (by omega)))
                have hz := hBr.size
                have iF : IsTm wr.heap.size wr (.int .u8 4) (.int .i64 0) (.string s) (.slice a U.length ca) (tFun s U) := isTm_mk (by omega) (i64_mk (by omega)) hs (by unfold maxLen; omega) (fun hne => by obtain ⟨bb, off, h1, h2, h3⟩ := HAU.out hne; exact ⟨bb, off, h1, by omega, (h3.below hBr h2).mono hz⟩)
                have iG : IsTm wr.heap.size wr (.int .u8 4) (.int .i64 0) (.string t) (.slice b V.length cb) (tFun t V) := isTm_mk (by omega) (i64_mk (by omega)) ht (by unfold maxLen; omega) (fun hne => by obtain ⟨bb, off, h1, h2, h3⟩ := HAV.out hne; exact ⟨bb, off, h1, by omega, (h3.below hBr h2).mono hz⟩)
                have hCF := compare_ever iF iG wr (Below.refl _ _)
                rw [HTT.out, hT] at hCF
                have HCF := Lib.hid hCF
                have HIF := Lib.hid iF
                clear hCF iF iG hT hz r19
                have x18_0 := cells_at r18 0 _ rfl
                have x18_1 := cells_at r18 1 _ rfl
                have x18_2 := cells_at r18 2 _ rfl
                have x18_3 := cells_at r18 3 _ rfl
                have x19_0 := cells_at HRx19.out 0 _ rfl
                have x19_1 := cells_at HRx19.out 1 _ rfl
                have x19_2 := cells_at HRx19.out 2 _ rfl
                have x19_3 := cells_at HRx19.out 3 _ rfl
                go_wp2_with fail
                refine HCF.out.mono ?_
                clear HCF x18_0 x18_1 x18_2 x18_3 x19_0 x19_1 x19_2 x19_3
                rintro e Wz ⟨rfl, hbz⟩
                have r13 := r13.grow hbz
                have r15 := r15.grow hbz
                have r18 := r18.grow hbz
                have hBz := hBr.trans (hbz.mono hBr.size)
                have iF := (HIF.out.below hbz).mono hbz.size
                clear hbz hBr HIF
                have x13_0 := cells_at r13 0 _ rfl
                have x13_1 := cells_at r13 1 _ rfl
                have x13_2 := cells_at r13 2 _ rfl
                have x13_3 := cells_at r13 3 _ rfl
                have x15_0 := cells_at r15 0 _ rfl
                have x15_1 := cells_at r15 1 _ rfl
                have x15_2 := cells_at r15 2 _ rfl
                have x15_3 := cells_at r15 3 _ rfl
                have x18_0 := cells_at r18 0 _ rfl
                have x18_1 := cells_at r18 1 _ rfl
                have x18_2 := cells_at r18 2 _ rfl
                have x18_3 := cells_at r18 3 _ rfl
                go_wp2_with fail
                have hAl : Below Wz.heap.size Wz (Wz.alloc (.cells #[.int .u8 1, .int .i64 m, .string ⟨#[]⟩, .slice none 0 0, .int .u8 2, .int .i64 0, .string s, .slice none 0 0, .int .u8 4, .int .i64 0, .string s, .slice a U.length ca] 24)) := (Below.refl _ _).alloc (Nat.le_refl _) _
                have hRi := rises_true [tNum m, tSym s, tFun s U] _ _ (sl_three (World.alloc_heap_new Wz (.cells #[.int .u8 1, .int .i64 m, .string ⟨#[]⟩, .slice none 0 0, .int .u8 2, .int .i64 0, .string s, .slice none 0 0, .int .u8 4, .int .i64 0, .string s, .slice a U.length ca] 24)) (num_holds hm) (H_isS.out _) ((iF.below hAl).mono hAl.size)) (rises_tri m s s U)
                have hBy := hBz.trans (hAl.mono hBz.size)
                refine hRi.mono ?_
                clear hRi hAl iF x13_0 x13_1 x13_2 x13_3 x15_0 x15_1 x15_2 x15_3 x18_0 x18_1 x18_2 x18_3
                rintro e Wy ⟨rfl, hby⟩
                have hBf := hBy.trans (hby.mono hBy.size)
                clear hby hBy hBz r13 r15 r18
                go_wp2_with fail
                go_ret
                exact ⟨rfl, hBf⟩
            · have g4 : (xv == 0) = false := by simpa using g2
              have hT : TT = xv := HW.out.stop (Or.inl g2)
              have hz := hBr.size
              have iF : IsTm wr.heap.size wr (.int .u8 4) (.int .i64 0) (.string s) (.slice a U.length ca) (tFun s U) := isTm_mk (by omega) (i64_mk (by omega)) hs (by unfold maxLen; omega) (fun hne => by obtain ⟨bb, off, h1, h2, h3⟩ := HAU.out hne; exact ⟨bb, off, h1, by omega, (h3.below hBr h2).mono hz⟩)
              have iG : IsTm wr.heap.size wr (.int .u8 4) (.int .i64 0) (.string t) (.slice b V.length cb) (tFun t V) := isTm_mk (by omega) (i64_mk (by omega)) ht (by unfold maxLen; omega) (fun hne => by obtain ⟨bb, off, h1, h2, h3⟩ := HAV.out hne; exact ⟨bb, off, h1, by omega, (h3.below hBr h2).mono hz⟩)
              have hCF := compare_ever iF iG wr (Below.refl _ _)
              rw [HTT.out, hT] at hCF
              have HCF := Lib.hid hCF
              have HIF := Lib.hid iF
              clear hCF iF iG hT hz r19
              have x18_0 := cells_at r18 0 _ rfl
              have x18_1 := cells_at r18 1 _ rfl
              have x18_2 := cells_at r18 2 _ rfl
              have x18_3 := cells_at r18 3 _ rfl
              have x19_0 := cells_at HRx19.out 0 _ rfl
              have x19_1 := cells_at HRx19.out 1 _ rfl
              have x19_2 := cells_at HRx19.out 2 _ rfl
              have x19_3 := cells_at HRx19.out 3 _ rfl
              go_wp2_with fail
              refine HCF.out.mono ?_
              clear HCF x18_0 x18_1 x18_2 x18_3 x19_0 x19_1 x19_2 x19_3
              rintro e Wz ⟨rfl, hbz⟩
              have r13 := r13.grow hbz
              have r15 := r15.grow hbz
              have r18 := r18.grow hbz
              have hBz := hBr.trans (hbz.mono hBr.size)
              have iF := (HIF.out.below hbz).mono hbz.size
              clear hbz hBr HIF
              have x13_0 := cells_at r13 0 _ rfl
              have x13_1 := cells_at r13 1 _ rfl
              have x13_2 := cells_at r13 2 _ rfl
              have x13_3 := cells_at r13 3 _ rfl
              have x15_0 := cells_at r15 0 _ rfl
              have x15_1 := cells_at r15 1 _ rfl
              have x15_2 := cells_at r15 2 _ rfl
              have x15_3 := cells_at r15 3 _ rfl
              have x18_0 := cells_at r18 0 _ rfl
              have x18_1 := cells_at r18 1 _ rfl
              have x18_2 := cells_at r18 2 _ rfl
              have x18_3 := cells_at r18 3 _ rfl
              go_wp2_with fail
              have hAl : Below Wz.heap.size Wz (Wz.alloc (.cells #[.int .u8 1, .int .i64 m, .string ⟨#[]⟩, .slice none 0 0, .int .u8 2, .int .i64 0, .string s, .slice none 0 0, .int .u8 4, .int .i64 0, .string s, .slice a U.length ca] 24)) := (Below.refl _ _).alloc (Nat.le_refl _) _
              have hRi := rises_true [tNum m, tSym s, tFun s U] _ _ (sl_three (World.alloc_heap_new Wz (.cells #[.int .u8 1, .int .i64 m, .string ⟨#[]⟩, .slice none 0 0, .int .u8 2, .int .i64 0, .string s, .slice none 0 0, .int .u8 4, .int .i64 0, .string s, .slice a U.length ca] 24)) (num_holds hm) (H_isS.out _) ((iF.below hAl).mono hAl.size)) (rises_tri m s s U)
              have hBy := hBz.trans (hAl.mono hBz.size)
              refine hRi.mono ?_
              clear hRi hAl iF x13_0 x13_1 x13_2 x13_3 x15_0 x15_1 x15_2 x15_3 x18_0 x18_1 x18_2 x18_3
              rintro e Wy ⟨rfl, hby⟩
              have hBf := hBy.trans (hby.mono hBy.size)
              clear hby hBy hBz r13 r15 r18
              go_wp2_with fail
              go_ret
              exact ⟨rfl, hBf⟩
          · have g5 : U.length ≤ j := by omega
            have hT : TT = xv := HW.out.stop (Or.inr (Or.inl g5))
            have hz := hBr.size
            have iF : IsTm wr.heap.size wr (.int .u8 4) (.int .i64 0) (.string s) (.slice a U.length ca) (tFun s U) := isTm_mk (by omega) (i64_mk (by omega)) hs (by unfold maxLen; omega) (fun hne => by obtain ⟨bb, off, h1, h2, h3⟩ := HAU.out hne; exact ⟨bb, off, h1, by omega, (h3.below hBr h2).mono hz⟩)
            have iG : IsTm wr.heap.size wr (.int .u8 4) (.int .i64 0) (.string t) (.slice b V.length cb) (tFun t V) := isTm_mk (by omega) (i64_mk (by omega)) ht (by unfold maxLen; omega) (fun hne => by obtain ⟨bb, off, h1, h2, h3⟩ := HAV.out hne; exact ⟨bb, off, h1, by omega, (h3.below hBr h2).mono hz⟩)
            have hCF := compare_ever iF iG wr (Below.refl _ _)
            rw [HTT.out, hT] at hCF
            have HCF := Lib.hid hCF
            have HIF := Lib.hid iF
            clear hCF iF iG hT hz r19
            have x18_0 := cells_at r18 0 _ rfl
            have x18_1 := cells_at r18 1 _ rfl
            have x18_2 := cells_at r18 2 _ rfl
            have x18_3 := cells_at r18 3 _ rfl
            have x19_0 := cells_at HRx19.out 0 _ rfl
            have x19_1 := cells_at HRx19.out 1 _ rfl
            have x19_2 := cells_at HRx19.out 2 _ rfl
            have x19_3 := cells_at HRx19.out 3 _ rfl
            go_wp2_with fail
            refine HCF.out.mono ?_
            clear HCF x18_0 x18_1 x18_2 x18_3 x19_0 x19_1 x19_2 x19_3
            rintro e Wz ⟨rfl, hbz⟩
            have r13 := r13.grow hbz
            have r15 := r15.grow hbz
            have r18 := r18.grow hbz
            have hBz := hBr.trans (hbz.mono hBr.size)
            have iF := (HIF.out.below hbz).mono hbz.size
            clear hbz hBr HIF
            have x13_0 := cells_at r13 0 _ rfl
            have x13_1 := cells_at r13 1 _ rfl
            have x13_2 := cells_at r13 2 _ rfl
            have x13_3 := cells_at r13 3 _ rfl
            have x15_0 := cells_at r15 0 _ rfl
            have x15_1 := cells_at r15 1 _ rfl
            have x15_2 := cells_at r15 2 _ rfl
            have x15_3 := cells_at r15 3 _ rfl
            have x18_0 := cells_at r18 0 _ rfl
            have x18_1 := cells_at r18 1 _ rfl
            have x18_2 := cells_at r18 2 _ rfl
            have x18_3 := cells_at r18 3 _ rfl
            go_wp2_with fail
            have hAl : Below Wz.heap.size Wz (Wz.alloc (.cells #[.int .u8 1, .int .i64 m, .string ⟨#[]⟩, .slice none 0 0, .int .u8 2, .int .i64 0, .string s, .slice none 0 0, .int .u8 4, .int .i64 0, .string s, .slice a U.length ca] 24)) := (Below.refl _ _).alloc (Nat.le_refl _) _
            have hRi := rises_true [tNum m, tSym s, tFun s U] _ _ (sl_three (World.alloc_heap_new Wz (.cells #[.int .u8 1, .int .i64 m, .string ⟨#[]⟩, .slice none 0 0, .int .u8 2, .int .i64 0, .string s, .slice none 0 0, .int .u8 4, .int .i64 0, .string s, .slice a U.length ca] 24)) (num_holds hm) (H_isS.out _) ((iF.below hAl).mono hAl.size)) (rises_tri m s s U)
            have hBy := hBz.trans (hAl.mono hBz.size)
            refine hRi.mono ?_
            clear hRi hAl iF x13_0 x13_1 x13_2 x13_3 x15_0 x15_1 x15_2 x15_3 x18_0 x18_1 x18_2 x18_3
            rintro e Wy ⟨rfl, hby⟩
            have hBf := hBy.trans (hby.mono hBy.size)
            clear hby hBy hBz r13 r15 r18
            go_wp2_with fail
            go_ret
            exact ⟨rfl, hBf⟩
end Go.Proofs.YtkjoimedalhnoaaGreatDoor
