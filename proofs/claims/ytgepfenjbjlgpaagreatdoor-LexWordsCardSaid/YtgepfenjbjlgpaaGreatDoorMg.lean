/- The law of words and numbers: its walk. -/
import Derived.Test.YtgepfenjbjlgpaaGreatDoorMw
import Derived.Test.YtgepfenjbjlgpaaGreatDoorLz
import Derived.Test.YtgepfenjbjlgpaaGreatDoorSt
import Derived.Test.YtgepfenjbjlgpaaGreatDoorRt
namespace Go.Proofs.YtgepfenjbjlgpaaGreatDoor
open Go.RowKit

theorem wanted_true {o : Oper} {y : Nat → Option Bool} {k : Nat} (hg : o.guard = some (k, true)) (hy : y k = some true) : Region.wanted o y = true := by
  unfold Region.wanted
  rw [hg]
  simp [hy]
def tInt (n : Int) : Tm := .mk 1 n ⟨#[]⟩ []
theorem tInt_valid (n : Int) : (tInt n).validB = (decide (-2147483647 ≤ n) && decide (n ≤ 2147483647)) := by
  unfold tInt Tm.validB
  simp only [Tm.nodes, Tm.nodesL, List.all_cons, List.all_nil, Bool.and_true]
  unfold nodeOkB
  show (decide (1 ≤ 12) && reqB 1 n ⟨#[]⟩ 0) = _
  rw [show decide (1 ≤ 12) = true from rfl, Bool.true_and]
  unfold reqB
  by_cases h1 : -2147483647 ≤ n <;> by_cases h2 : n ≤ 2147483647 <;> simp [h1, h2]
theorem tInt_at (n : Int) (hn : I64 n) (B : Nat) (w : World) : IsTm B w (.int .u8 1) (.int .i64 n) (.string ⟨#[]⟩) (.slice none 0 0) (tInt n) := by
  unfold tInt IsTm
  exact ⟨rfl, by omega, rfl, hn, rfl, by unfold maxLen; decide, none, 0, rfl, by simp, fun h => absurd rfl h⟩
theorem tInt_depth (n : Int) : (tInt n).depth = 1 := rfl
theorem tInt_text (n : Int) : (tInt n).text = Lib.itoa n := text_1 n _ _
theorem dec_len {u : Nat} (hu : u ≤ 2147483647) : (Lib.decDigits u).length ≤ 20 := by
  rw [Lib.decDigits_length]; exact Lib.nDigits_le20 u (by omega)
theorem decB_size (u : Nat) : (decB u).size = (Lib.decDigits u).length := by
  show (decB u).data.toList.length = _
  rw [decB_list]
theorem empty_all : lexAll ⟨#[]⟩ = [] := by
  rw [lexR_zero, lexR_end (by decide)]
theorem empty_err : lexErr ⟨#[]⟩ = none := lexErr_none (by rw [empty_all]; simp)
/-- What the text of an integer is. -/
theorem str_cases (n : Int) : ((tInt n).validB = false ∧ (tInt n).str = ⟨#[]⟩) ∨ ((tInt n).validB = true ∧ ∃ u : Nat, u ≤ 2147483647 ∧ n < 0 ∧ (tInt n).str = negB u) ∨ ((tInt n).validB = true ∧ ∃ u : Nat, u ≤ 2147483647 ∧ ¬ n < 0 ∧ (tInt n).str = decB u) := by
  cases hv : (tInt n).validB
  · exact .inl ⟨rfl, by unfold Tm.str; rw [hv]; rfl⟩
  · have hv' := hv
    rw [tInt_valid, Bool.and_eq_true] at hv'
    have h1 := of_decide_eq_true hv'.1
    have h2 := of_decide_eq_true hv'.2
    have hs : (tInt n).str = ⟨(Lib.itoa n).toArray⟩ := by unfold Tm.str; rw [hv, tInt_text]; rfl
    by_cases hn : n < 0
    · refine .inr (.inl ⟨rfl, n.natAbs, by omega, hn, ?_⟩)
      rw [hs]; unfold Lib.itoa negB; rw [if_pos hn]
    · refine .inr (.inr ⟨rfl, n.toNat, by omega, hn, ?_⟩)
      rw [hs]; unfold Lib.itoa decB; rw [if_neg hn]

set_option maxRecDepth 100000 in
set_option maxHeartbeats 16000000 in
theorem words_any (s : ByteArray) (n : Int) (hs : s.size ≤ maxLen) (hn : I64 n) (w : World) (hE : ErrOk w) (hgB : 3 < w.heap.size) (htab : Lib.TabIs Tryz.prog w "internal/strconv.uint64pow10" .u64 Lib.pow10Tab) :
    Calls Tryz.prog 5 #[.string s, .int .i64 n] w fun e w' => e = .returned (.bool true) ∧ Below w.heap.size w w' := by
  have HE := Lib.hid hE
  have HA := Lib.hid (lexAwake_any w hE)
  have HSY := Lib.hid (fun w => symbol_any s w hs)
  have HVR := Lib.hid (fun w => variable_any s w hs)
  have HST : Hid (∀ wx, Below w.heap.size w wx → Calls Tryz.prog 12 #[.agg #[.int .u8 1, .int .i64 n, .string ⟨#[]⟩, .slice none 0 0]] wx fun e w' => e = .returned (.string (tInt n).str) ∧ Below wx.heap.size wx w') := Lib.hid (fun wx hwx =>
    string_any (tInt n) _ _ _ _ wx (tInt_at n hn _ wx) (by rw [tInt_depth]; omega) (fun _ => by rw [tInt_text]; have := Lib.itoa_length_le n (i64_bounds hn).1 (i64_bounds hn).2; omega) (Nat.lt_of_lt_of_le hgB hwx.size) (tab_below hwx hgB htab))
  have HVA : Hid (∀ wx, Below w.heap.size w wx → Calls Tryz.prog 13 #[.agg #[.int .u8 1, .int .i64 n, .string ⟨#[]⟩, .slice none 0 0]] wx fun e w' => e = .returned (.bool (tInt n).validB) ∧ Below wx.heap.size wx w') := Lib.hid (fun wx _ =>
    valid_any (tInt n) _ _ _ _ wx (tInt_at n hn _ wx) (by rw [tInt_depth]; omega))
  have HCS : Hid (((tInt n).validB = false ∧ (tInt n).str = ⟨#[]⟩) ∨ ((tInt n).validB = true ∧ (tInt n).str = (tInt n).str ∧ n < 0 ∧ ∃ u : Nat, u ≤ 2147483647 ∧ (tInt n).str = negB u) ∨ ((tInt n).validB = true ∧ (tInt n).str = (tInt n).str ∧ ¬ n < 0 ∧ ∃ u : Nat, u ≤ 2147483647 ∧ (tInt n).str = decB u)) := Lib.hid (by
    rcases str_cases n with h | ⟨h, u, hu, h1, h2⟩ | ⟨h, u, hu, h1, h2⟩
    · exact .inl h
    · exact .inr (.inl ⟨h, rfl, h1, u, hu, h2⟩)
    · exact .inr (.inr ⟨h, rfl, h1, u, hu, h2⟩))
  generalize (tInt n).validB = vv at HVA HCS
  generalize (tInt n).str = ss at HST HCS
  have hbn := i64_bounds hn
  clear hE htab hn
  go_enter Tryz.func5, Tryz.ntmps5
  go_wp2_with fail
  refine HA.out.mono ?_
  clear HA
  rintro e W1 ⟨rfl, hB1⟩
  have HB1 := Lib.hid hB1
  clear hB1
  by_cases h200 : s.size ≤ 200
  rotate_left
  · have hd : decide ((200 : Int) < (s.size : Int)) = true := by simp; omega
    unfold maxLen at hs
    go_wp2_with fail
    go_ret
    exact ⟨rfl, HB1.out⟩
  have hd : decide ((200 : Int) < (s.size : Int)) = false := by simp; omega
  unfold maxLen at hs
  cases hx : lexErr s with
  | some x =>
    have hne : x.e ≠ 0 := by
      have := List.find?_some hx
      simpa using this
    have e0 : (x.e == 0) = false := by simpa using hne
    have hW : (notB s || (symbolB s || variableB s)) = false := by
      rw [Bool.eq_false_iff]; intro h
      rw [(lex_word h).2] at hx; cases hx
    simp only [Bool.or_eq_false_iff] at hW
    have HNT : (s.toList == [110, 111, 116]) = false := hW.1
    rw [hW.2.1] at HSY
    rw [hW.2.2] at HVR
    clear hW hne
    go_wp2_with fail
    refine (lex_err s W1 (by omega) (HE.out.below HB1.out) x hx).mono ?_
    rintro e W2 ⟨rfl, hB2⟩
    have HB2 := Lib.hid (HB1.out.trans (hB2.mono HB1.out.size))
    clear hB2 HB1 hx
    as_aux_lemma =>
      go_wp2_with (first | (go_at_call 10; refine (HSY.out _).mono ?_; rintro e w2 ⟨rfl, rfl⟩) | (go_at_call 11; refine (HVR.out _).mono ?_; rintro e w2 ⟨rfl, rfl⟩))
      obtain ⟨X, hX⟩ : ∃ X, W2.heap.size = X := ⟨_, rfl⟩
      obtain ⟨W3, hW3⟩ : ∃ W3, W2.alloc (.cells #[.int .u8 1, .int .i64 n, .string ⟨#[]⟩, .slice none 0 0] 36) = W3 := ⟨_, rfl⟩
      have hx3 : W3.heap[X]? = some (.cells #[.int .u8 1, .int .i64 n, .string ⟨#[]⟩, .slice none 0 0] 36 (0, 0)) := by rw [← hW3, ← hX]; exact World.alloc_heap_new _ _
      have hB3 : Below w.heap.size w W3 := by rw [← hW3]; exact HB2.out.alloc HB2.out.size _
      have hXw : w.heap.size ≤ X := by rw [← hX]; exact HB2.out.size
      have y0 := cells_at hx3 0 _ rfl
      have y1 := cells_at hx3 1 _ rfl
      have y2 := cells_at hx3 2 _ rfl
      have y3 := cells_at hx3 3 _ rfl
      have HX3 := Lib.hid hx3
      have HB3 := Lib.hid hB3
      clear hx3 hB3
      first | rw [hW3] | skip
      go_wp2_with fail
      first | rw [hW3] | skip
      refine (HST.out W3 HB3.out).mono ?_
      rintro e W4 ⟨rfl, hB4⟩
      have HB4 := Lib.hid (HB3.out.trans (hB4.mono HB3.out.size))
      have HX4 := Lib.hid ((hB4.block X (Array.getElem?_eq_some_iff.1 HX3.out).1).trans HX3.out)
      clear hB4 y0 y1 y2 y3 HB3 HX3
      clear hW3
      rcases HCS.out with ⟨hv, hst⟩ | ⟨hv, hun, hn0, u, hu, hst⟩ | ⟨hv, hun, hn0, u, hu, hst⟩
      · rw [hst]
        rw [hv] at HVA
        go_wp2_with fail
        refine (lex_ok _ W4 (by decide) (HE.out.below HB4.out) empty_err).mono ?_
        rintro e W5 ⟨k5, rfl, hk5, hB5⟩
        have HB5 := Lib.hid (HB4.out.trans (hB5.mono HB4.out.size))
        have HX5 := Lib.hid ((hB5.block X (Array.getElem?_eq_some_iff.1 HX4.out).1).trans HX4.out)
        clear hB5 HB4 HX4
        rw [empty_all] at hk5
        obtain ⟨p5, cap5, rfl, _⟩ := hk5
        have y0 := cells_at HX5.out 0 _ rfl
        have y1 := cells_at HX5.out 1 _ rfl
        have y2 := cells_at HX5.out 2 _ rfl
        have y3 := cells_at HX5.out 3 _ rfl
        go_wp2_with fail
        refine (HVA.out W5 HB5.out).mono ?_
        rintro e W6 ⟨rfl, hB6⟩
        have HB6 := Lib.hid (HB5.out.trans (hB6.mono HB5.out.size))
        have HX6 := Lib.hid ((hB6.block X (Array.getElem?_eq_some_iff.1 HX5.out).1).trans HX5.out)
        clear y0 y1 y2 y3
        clear hB6 HB5 HX5
        go_wp2_with fail
        go_ret
        exact ⟨rfl, HB6.out⟩
      · rw [hst]
        rw [hv] at HVA
        obtain ⟨ty, tz, hall, herr, hty, htz⟩ := lex_neg hu
        have hdn : decide ((n : Int) < 0) = true := decide_eq_true hn0
        go_wp2_with fail
        refine (lex_ok _ W4 (by rw [negB_size]; have := dec_len hu; omega) (HE.out.below HB4.out) herr).mono ?_
        rintro e W5 ⟨k5, rfl, hk5, hB5⟩
        have HB5 := Lib.hid (HB4.out.trans (hB5.mono HB4.out.size))
        have HX5 := Lib.hid ((hB5.block X (Array.getElem?_eq_some_iff.1 HX4.out).1).trans HX4.out)
        clear hB5 HB4 HX4
        rw [hall] at hk5
        obtain ⟨p5, cap5, rfl, hc5⟩ := hk5
        obtain ⟨b2, off2, rfl, hlb2, hc5⟩ := hc5 (by simp)
        have q1 := (hc5 0 ty rfl).2.1
        have q3 := (hc5 1 tz rfl).1
        rw [hty] at q1
        rw [htz] at q3
        rw [Nat.zero_mul, Nat.add_zero] at q1
        rw [Nat.one_mul] at q3
        have y0 := cells_at HX5.out 0 _ rfl
        have y1 := cells_at HX5.out 1 _ rfl
        have y2 := cells_at HX5.out 2 _ rfl
        have y3 := cells_at HX5.out 3 _ rfl
        go_wp2_with fail
        refine (HVA.out W5 HB5.out).mono ?_
        rintro e W6 ⟨rfl, hB6⟩
        have HB6 := Lib.hid (HB5.out.trans (hB6.mono HB5.out.size))
        have HX6 := Lib.hid ((hB6.block X (Array.getElem?_eq_some_iff.1 HX5.out).1).trans HX5.out)
        clear y0 y1 y2 y3
        have q1 := (hB6.cell (p := ⟨b2, off2 + 1, none⟩) hlb2).trans q1
        have q3 := (hB6.cell (p := ⟨b2, off2 + 3, none⟩) hlb2).trans q3
        have e45 : ((⟨#[45]⟩ : ByteArray).toList == [45]) = true := by decide +kernel
        clear hB6 HB5 HX5 hc5 hst hall herr hty htz hun
        go_wp2_with fail
        go_ret
        exact ⟨rfl, HB6.out⟩
      · rw [hst]
        rw [hv] at HVA
        obtain ⟨hall, herr⟩ := lex_dec hu
        have hdn : decide ((n : Int) < 0) = false := decide_eq_false (by omega)
        go_wp2_with fail
        refine (lex_ok _ W4 (by rw [decB_size]; have := dec_len hu; omega) (HE.out.below HB4.out) herr).mono ?_
        rintro e W5 ⟨k5, rfl, hk5, hB5⟩
        have HB5 := Lib.hid (HB4.out.trans (hB5.mono HB4.out.size))
        have HX5 := Lib.hid ((hB5.block X (Array.getElem?_eq_some_iff.1 HX4.out).1).trans HX4.out)
        clear hB5 HB4 HX4
        rw [hall] at hk5
        obtain ⟨p5, cap5, rfl, hc5⟩ := hk5
        obtain ⟨b2, off2, rfl, hlb2, hc5⟩ := hc5 (by simp)
        obtain ⟨q0, q1, _⟩ := hc5 0 _ rfl
        simp only [Nat.zero_mul, Nat.add_zero] at q0 q1
        have y0 := cells_at HX5.out 0 _ rfl
        have y1 := cells_at HX5.out 1 _ rfl
        have y2 := cells_at HX5.out 2 _ rfl
        have y3 := cells_at HX5.out 3 _ rfl
        go_wp2_with fail
        refine (HVA.out W5 HB5.out).mono ?_
        rintro e W6 ⟨rfl, hB6⟩
        have HB6 := Lib.hid (HB5.out.trans (hB6.mono HB5.out.size))
        have HX6 := Lib.hid ((hB6.block X (Array.getElem?_eq_some_iff.1 HX5.out).1).trans HX5.out)
        clear y0 y1 y2 y3
        have q0 := (hB6.cell (p := ⟨b2, off2, none⟩) hlb2).trans q0
        have q1 := (hB6.cell (p := ⟨b2, off2 + 1, none⟩) hlb2).trans q1
        have hlb2 := Nat.lt_of_lt_of_le hlb2 hB6.size
        have y0 := cells_at HX6.out 0 _ rfl
        have y1 := cells_at HX6.out 1 _ rfl
        have y2 := cells_at HX6.out 2 _ rfl
        have y3 := cells_at HX6.out 3 _ rfl
        have hlx := (Array.getElem?_eq_some_iff.1 HX6.out).1
        have HS5 : Hid (∀ wx, Below W6.heap.size W6 wx → Calls Tryz.prog 12 #[.agg #[.int .u8 1, .int .i64 n, .string ⟨#[]⟩, .slice none 0 0]] wx fun e w' => e = .returned (.string (decB u)) ∧ Below wx.heap.size wx w') := Lib.hid (fun wx hwx => by
          rw [← hst]; exact HST.out wx (HB6.out.trans (hwx.mono HB6.out.size)))
        have HB4 := HB6
        have nd : ((decB u).toList == (decB u).toList) = true := by simp
        clear hB6 HB5 HX5 HB6 HX6 hc5 hall herr hst hun HST HVA HCS
        go_wp2_with fail
        refine wp_region_grow_tail (by kernel_rfl) 23 (FQ [ .val (.int .i64 0), .val (.bool true), .val (.bool true), .val (.slice (some ⟨b2, off2, none⟩) 1 cap5), .val (.int .i64 1), .val (.bool true), .val (.bool true), .val (.bool true), .val (.slice (some ⟨b2, off2, none⟩) 1 cap5), .val (.pointer (some ⟨b2, off2, none⟩)), .val (.pointer (some ⟨b2, off2, none⟩)), .val (.int .u8 3), .val (.bool true), .val (.bool true), .val (.bool true), .val (.slice (some ⟨b2, off2, none⟩) 1 cap5), .val (.pointer (some ⟨b2, off2, none⟩)), .val (.pointer (some ⟨b2, off2 + 1, none⟩)), .val (.string (decB u)), .val (.agg #[.int .u8 1, .int .i64 n, .string ⟨#[]⟩, .slice none 0 0]), .val (.string (decB u)), .val (.bool true), .val (.bool true)]) (FQ_grow _) (by kernel_rfl) (by kernel_rfl) (steps_to ?_) ?_
        · simp only [List.take_succ_cons, List.take_zero]
          refine ⟨?_, ?_, ?_, ?_, ?_, ?_, ?_, ?_, ?_, ?_, ?_, ?_, ?_, ?_, ?_, ?_, ?_, ?_, ?_, ?_, ?_, ?_, ?_, trivial⟩
          · intro a wx hb hd hs ho hp
            refine ⟨rfl, ?_⟩
            have h12 : a.tmps.getD 12 undef = _ := (ho 12 (by kernel_rfl)).trans rfl
            unfold Oper.wp
            go_simp
            exact Stepped.at rfl hd (Below.refl _ _) (FQ_mk (.val (.int .i64 0)) rfl (by first | rfl | simp))
          · intro a wx hb hd hs ho hp
            refine ⟨rfl, ?_⟩
            have h118 : a.tmps.getD 118 undef = .int .i64 0 := qval_at hp 0 118 (by kernel_rfl) rfl
            unfold Oper.wp
            go_simp
            exact Stepped.at rfl hd (Below.refl _ _) (FQ_mk (.val (.bool true)) rfl (by first | rfl | simp))
          · intro a wx hb hd hs ho hp
            refine ⟨rfl, ?_⟩
            have h119 : a.tmps.getD 119 undef = .bool true := qval_at hp 1 119 (by kernel_rfl) rfl
            unfold Oper.wp
            go_simp
            exact Stepped.at rfl hd (Below.refl _ _) (FQ_mk (.val (.bool true)) rfl (by first | rfl | simp))
          · intro a wx hb hd hs ho hp
            refine ⟨wanted_true rfl (yielded_at (k := 2) (d := 120) (by kernel_rfl) (qval_at hp 2 120 (by kernel_rfl) rfl)), ?_⟩
            have h10 : a.tmps.getD 10 undef = _ := (ho 10 (by kernel_rfl)).trans rfl
            unfold Oper.wp
            go_simp
            exact Stepped.at rfl hd (Below.refl _ _) (FQ_mk (.val (.slice (some ⟨b2, off2, none⟩) 1 cap5)) rfl (by first | rfl | simp))
          · intro a wx hb hd hs ho hp
            refine ⟨wanted_true rfl (yielded_at (k := 2) (d := 120) (by kernel_rfl) (qval_at hp 2 120 (by kernel_rfl) rfl)), ?_⟩
            have h121 : a.tmps.getD 121 undef = .slice (some ⟨b2, off2, none⟩) 1 cap5 := qval_at hp 3 121 (by kernel_rfl) rfl
            unfold Oper.wp
            go_simp
            exact Stepped.at rfl hd (Below.refl _ _) (FQ_mk (.val (.int .i64 1)) rfl (by first | rfl | simp))
          · intro a wx hb hd hs ho hp
            refine ⟨wanted_true rfl (yielded_at (k := 2) (d := 120) (by kernel_rfl) (qval_at hp 2 120 (by kernel_rfl) rfl)), ?_⟩
            have h122 : a.tmps.getD 122 undef = .int .i64 1 := qval_at hp 4 122 (by kernel_rfl) rfl
            unfold Oper.wp
            go_simp
            exact Stepped.at rfl hd (Below.refl _ _) (FQ_mk (.val (.bool true)) rfl (by first | rfl | simp))
          · intro a wx hb hd hs ho hp
            refine ⟨rfl, ?_⟩
            have h120 : a.tmps.getD 120 undef = .bool true := qval_at hp 2 120 (by kernel_rfl) rfl
            have h123 : a.tmps.getD 123 undef = .bool true := qval_at hp 5 123 (by kernel_rfl) rfl
            unfold Oper.wp
            go_simp
            exact Stepped.at rfl hd (Below.refl _ _) (FQ_mk (.val (.bool true)) rfl (by first | rfl | simp))
          · intro a wx hb hd hs ho hp
            refine ⟨rfl, ?_⟩
            have h124 : a.tmps.getD 124 undef = .bool true := qval_at hp 6 124 (by kernel_rfl) rfl
            unfold Oper.wp
            go_simp
            exact Stepped.at rfl hd (Below.refl _ _) (FQ_mk (.val (.bool true)) rfl (by first | rfl | simp))
          · intro a wx hb hd hs ho hp
            refine ⟨wanted_true rfl (yielded_at (k := 7) (d := 125) (by kernel_rfl) (qval_at hp 7 125 (by kernel_rfl) rfl)), ?_⟩
            have h10 : a.tmps.getD 10 undef = _ := (ho 10 (by kernel_rfl)).trans rfl
            unfold Oper.wp
            go_simp
            exact Stepped.at rfl hd (Below.refl _ _) (FQ_mk (.val (.slice (some ⟨b2, off2, none⟩) 1 cap5)) rfl (by first | rfl | simp))
          · intro a wx hb hd hs ho hp
            refine ⟨wanted_true rfl (yielded_at (k := 7) (d := 125) (by kernel_rfl) (qval_at hp 7 125 (by kernel_rfl) rfl)), ?_⟩
            have h126 : a.tmps.getD 126 undef = .slice (some ⟨b2, off2, none⟩) 1 cap5 := qval_at hp 8 126 (by kernel_rfl) rfl
            unfold Oper.wp
            go_simp
            exact Stepped.at rfl hd (Below.refl _ _) (FQ_mk (.val (.pointer (some ⟨b2, off2, none⟩))) rfl (by first | rfl | simp))
          · intro a wx hb hd hs ho hp
            refine ⟨wanted_true rfl (yielded_at (k := 7) (d := 125) (by kernel_rfl) (qval_at hp 7 125 (by kernel_rfl) rfl)), ?_⟩
            have h127 : a.tmps.getD 127 undef = .pointer (some ⟨b2, off2, none⟩) := qval_at hp 9 127 (by kernel_rfl) rfl
            unfold Oper.wp
            go_simp
            exact Stepped.at rfl hd (Below.refl _ _) (FQ_mk (.val (.pointer (some ⟨b2, off2, none⟩))) rfl (by first | rfl | simp))
          · intro a wx hb hd hs ho hp
            refine ⟨wanted_true rfl (yielded_at (k := 7) (d := 125) (by kernel_rfl) (qval_at hp 7 125 (by kernel_rfl) rfl)), ?_⟩
            have h128 : a.tmps.getD 128 undef = .pointer (some ⟨b2, off2, none⟩) := qval_at hp 10 128 (by kernel_rfl) rfl
            have x0 := (hb.cell (p := ⟨b2, off2, none⟩) hlb2).trans q0
            unfold Oper.wp
            go_simp
            exact Stepped.at rfl hd (Below.refl _ _) (FQ_mk (.val (.int .u8 3)) rfl rfl)
          · intro a wx hb hd hs ho hp
            refine ⟨wanted_true rfl (yielded_at (k := 7) (d := 125) (by kernel_rfl) (qval_at hp 7 125 (by kernel_rfl) rfl)), ?_⟩
            have h129 : a.tmps.getD 129 undef = .int .u8 3 := qval_at hp 11 129 (by kernel_rfl) rfl
            unfold Oper.wp
            go_simp
            exact Stepped.at rfl hd (Below.refl _ _) (FQ_mk (.val (.bool true)) rfl (by first | rfl | simp))
          · intro a wx hb hd hs ho hp
            refine ⟨rfl, ?_⟩
            have h125 : a.tmps.getD 125 undef = .bool true := qval_at hp 7 125 (by kernel_rfl) rfl
            have h130 : a.tmps.getD 130 undef = .bool true := qval_at hp 12 130 (by kernel_rfl) rfl
            unfold Oper.wp
            go_simp
            exact Stepped.at rfl hd (Below.refl _ _) (FQ_mk (.val (.bool true)) rfl (by first | rfl | simp))
          · intro a wx hb hd hs ho hp
            refine ⟨rfl, ?_⟩
            have h131 : a.tmps.getD 131 undef = .bool true := qval_at hp 13 131 (by kernel_rfl) rfl
            unfold Oper.wp
            go_simp
            exact Stepped.at rfl hd (Below.refl _ _) (FQ_mk (.val (.bool true)) rfl (by first | rfl | simp))
          · intro a wx hb hd hs ho hp
            refine ⟨wanted_true rfl (yielded_at (k := 14) (d := 132) (by kernel_rfl) (qval_at hp 14 132 (by kernel_rfl) rfl)), ?_⟩
            have h10 : a.tmps.getD 10 undef = _ := (ho 10 (by kernel_rfl)).trans rfl
            unfold Oper.wp
            go_simp
            exact Stepped.at rfl hd (Below.refl _ _) (FQ_mk (.val (.slice (some ⟨b2, off2, none⟩) 1 cap5)) rfl (by first | rfl | simp))
          · intro a wx hb hd hs ho hp
            refine ⟨wanted_true rfl (yielded_at (k := 14) (d := 132) (by kernel_rfl) (qval_at hp 14 132 (by kernel_rfl) rfl)), ?_⟩
            have h133 : a.tmps.getD 133 undef = .slice (some ⟨b2, off2, none⟩) 1 cap5 := qval_at hp 15 133 (by kernel_rfl) rfl
            unfold Oper.wp
            go_simp
            exact Stepped.at rfl hd (Below.refl _ _) (FQ_mk (.val (.pointer (some ⟨b2, off2, none⟩))) rfl (by first | rfl | simp))
          · intro a wx hb hd hs ho hp
            refine ⟨wanted_true rfl (yielded_at (k := 14) (d := 132) (by kernel_rfl) (qval_at hp 14 132 (by kernel_rfl) rfl)), ?_⟩
            have h134 : a.tmps.getD 134 undef = .pointer (some ⟨b2, off2, none⟩) := qval_at hp 16 134 (by kernel_rfl) rfl
            unfold Oper.wp
            go_simp
            exact Stepped.at rfl hd (Below.refl _ _) (FQ_mk (.val (.pointer (some ⟨b2, off2 + 1, none⟩))) rfl (by first | rfl | simp))
          · intro a wx hb hd hs ho hp
            refine ⟨wanted_true rfl (yielded_at (k := 14) (d := 132) (by kernel_rfl) (qval_at hp 14 132 (by kernel_rfl) rfl)), ?_⟩
            have h135 : a.tmps.getD 135 undef = .pointer (some ⟨b2, off2 + 1, none⟩) := qval_at hp 17 135 (by kernel_rfl) rfl
            have x0 := (hb.cell (p := ⟨b2, off2 + 1, none⟩) hlb2).trans q1
            unfold Oper.wp
            go_simp
            exact Stepped.at rfl hd (Below.refl _ _) (FQ_mk (.val (.string (decB u))) rfl rfl)
          · intro a wx hb hd hs ho hp
            refine ⟨wanted_true rfl (yielded_at (k := 14) (d := 132) (by kernel_rfl) (qval_at hp 14 132 (by kernel_rfl) rfl)), ?_⟩
            have h9 : a.tmps.getD 9 undef = _ := (ho 9 (by kernel_rfl)).trans rfl
            have x0 := (hb.cell (p := ⟨X, 0, none⟩) hlx).trans y0
            have x1 := (hb.cell (p := ⟨X, 1, none⟩) hlx).trans y1
            have x2 := (hb.cell (p := ⟨X, 2, none⟩) hlx).trans y2
            have x3 := (hb.cell (p := ⟨X, 3, none⟩) hlx).trans y3
            unfold Oper.wp
            go_simp
            exact Stepped.at rfl hd (Below.refl _ _) (FQ_mk (.val (.agg #[.int .u8 1, .int .i64 n, .string ⟨#[]⟩, .slice none 0 0])) rfl rfl)
          · intro a wx hb hd hs ho hp
            refine ⟨wanted_true rfl (yielded_at (k := 14) (d := 132) (by kernel_rfl) (qval_at hp 14 132 (by kernel_rfl) rfl)), ?_⟩
            have h137 : a.tmps.getD 137 undef = .agg #[.int .u8 1, .int .i64 n, .string ⟨#[]⟩, .slice none 0 0] := qval_at hp 19 137 (by kernel_rfl) rfl
            unfold Oper.wp
            go_simp
            refine ((HS5.out wx hb)).mono ?_
            rintro e w2 ⟨rfl, hb2⟩
            exact Stepped.at rfl hd hb2 (FQ_mk (.val (.string (decB u))) rfl rfl)
          · intro a wx hb hd hs ho hp
            refine ⟨wanted_true rfl (yielded_at (k := 14) (d := 132) (by kernel_rfl) (qval_at hp 14 132 (by kernel_rfl) rfl)), ?_⟩
            have h136 : a.tmps.getD 136 undef = .string (decB u) := qval_at hp 18 136 (by kernel_rfl) rfl
            have h138 : a.tmps.getD 138 undef = .string (decB u) := qval_at hp 20 138 (by kernel_rfl) rfl
            unfold Oper.wp
            go_simp
            exact Stepped.at rfl hd (Below.refl _ _) (FQ_mk (.val (.bool true)) rfl (by first | rfl | simp))
          · intro a wx hb hd hs ho hp
            refine ⟨rfl, ?_⟩
            have h132 : a.tmps.getD 132 undef = .bool true := qval_at hp 14 132 (by kernel_rfl) rfl
            have h139 : a.tmps.getD 139 undef = .bool true := qval_at hp 21 139 (by kernel_rfl) rfl
            unfold Oper.wp
            go_simp
            exact Stepped.at rfl hd (Below.refl _ _) (FQ_mk (.val (.bool true)) rfl (by first | rfl | simp))
        intro a7 w7 hb7 hd7 hs7 ho7 hf7
        have k118 : a7.tmps.getD 118 undef = .int .i64 0 := FQ_at (.val (.int .i64 0)) rfl (facts_to hf7 0 118 (by decide) (by kernel_rfl))
        have k119 : a7.tmps.getD 119 undef = .bool true := FQ_at (.val (.bool true)) rfl (facts_to hf7 1 119 (by decide) (by kernel_rfl))
        have k120 : a7.tmps.getD 120 undef = .bool true := FQ_at (.val (.bool true)) rfl (facts_to hf7 2 120 (by decide) (by kernel_rfl))
        have k121 : a7.tmps.getD 121 undef = .slice (some ⟨b2, off2, none⟩) 1 cap5 := FQ_at (.val (.slice (some ⟨b2, off2, none⟩) 1 cap5)) rfl (facts_to hf7 3 121 (by decide) (by kernel_rfl))
        have k122 : a7.tmps.getD 122 undef = .int .i64 1 := FQ_at (.val (.int .i64 1)) rfl (facts_to hf7 4 122 (by decide) (by kernel_rfl))
        have k123 : a7.tmps.getD 123 undef = .bool true := FQ_at (.val (.bool true)) rfl (facts_to hf7 5 123 (by decide) (by kernel_rfl))
        have k124 : a7.tmps.getD 124 undef = .bool true := FQ_at (.val (.bool true)) rfl (facts_to hf7 6 124 (by decide) (by kernel_rfl))
        have k125 : a7.tmps.getD 125 undef = .bool true := FQ_at (.val (.bool true)) rfl (facts_to hf7 7 125 (by decide) (by kernel_rfl))
        have k126 : a7.tmps.getD 126 undef = .slice (some ⟨b2, off2, none⟩) 1 cap5 := FQ_at (.val (.slice (some ⟨b2, off2, none⟩) 1 cap5)) rfl (facts_to hf7 8 126 (by decide) (by kernel_rfl))
        have k127 : a7.tmps.getD 127 undef = .pointer (some ⟨b2, off2, none⟩) := FQ_at (.val (.pointer (some ⟨b2, off2, none⟩))) rfl (facts_to hf7 9 127 (by decide) (by kernel_rfl))
        have k128 : a7.tmps.getD 128 undef = .pointer (some ⟨b2, off2, none⟩) := FQ_at (.val (.pointer (some ⟨b2, off2, none⟩))) rfl (facts_to hf7 10 128 (by decide) (by kernel_rfl))
        have k129 : a7.tmps.getD 129 undef = .int .u8 3 := FQ_at (.val (.int .u8 3)) rfl (facts_to hf7 11 129 (by decide) (by kernel_rfl))
        have k130 : a7.tmps.getD 130 undef = .bool true := FQ_at (.val (.bool true)) rfl (facts_to hf7 12 130 (by decide) (by kernel_rfl))
        have k131 : a7.tmps.getD 131 undef = .bool true := FQ_at (.val (.bool true)) rfl (facts_to hf7 13 131 (by decide) (by kernel_rfl))
        have k132 : a7.tmps.getD 132 undef = .bool true := FQ_at (.val (.bool true)) rfl (facts_to hf7 14 132 (by decide) (by kernel_rfl))
        have k133 : a7.tmps.getD 133 undef = .slice (some ⟨b2, off2, none⟩) 1 cap5 := FQ_at (.val (.slice (some ⟨b2, off2, none⟩) 1 cap5)) rfl (facts_to hf7 15 133 (by decide) (by kernel_rfl))
        have k134 : a7.tmps.getD 134 undef = .pointer (some ⟨b2, off2, none⟩) := FQ_at (.val (.pointer (some ⟨b2, off2, none⟩))) rfl (facts_to hf7 16 134 (by decide) (by kernel_rfl))
        have k135 : a7.tmps.getD 135 undef = .pointer (some ⟨b2, off2 + 1, none⟩) := FQ_at (.val (.pointer (some ⟨b2, off2 + 1, none⟩))) rfl (facts_to hf7 17 135 (by decide) (by kernel_rfl))
        have k136 : a7.tmps.getD 136 undef = .string (decB u) := FQ_at (.val (.string (decB u))) rfl (facts_to hf7 18 136 (by decide) (by kernel_rfl))
        have k137 : a7.tmps.getD 137 undef = .agg #[.int .u8 1, .int .i64 n, .string ⟨#[]⟩, .slice none 0 0] := FQ_at (.val (.agg #[.int .u8 1, .int .i64 n, .string ⟨#[]⟩, .slice none 0 0])) rfl (facts_to hf7 19 137 (by decide) (by kernel_rfl))
        have k138 : a7.tmps.getD 138 undef = .string (decB u) := FQ_at (.val (.string (decB u))) rfl (facts_to hf7 20 138 (by decide) (by kernel_rfl))
        have k139 : a7.tmps.getD 139 undef = .bool true := FQ_at (.val (.bool true)) rfl (facts_to hf7 21 139 (by decide) (by kernel_rfl))
        have k140 : a7.tmps.getD 140 undef = .bool true := FQ_at (.val (.bool true)) rfl (facts_to hf7 22 140 (by decide) (by kernel_rfl))
        have hE7 := slots_all a7.tmps 141 (hs7.trans rfl)
        simp only [List.range, List.range.loop, List.map, k118, k119, k120, k121, k122, k123, k124, k125, k126, k127, k128, k129, k130, k131, k132, k133, k134, k135, k136, k137, k138, k139, k140, ho7 0 (by kernel_rfl), ho7 1 (by kernel_rfl), ho7 2 (by kernel_rfl), ho7 3 (by kernel_rfl), ho7 4 (by kernel_rfl), ho7 5 (by kernel_rfl), ho7 6 (by kernel_rfl), ho7 7 (by kernel_rfl), ho7 8 (by kernel_rfl), ho7 9 (by kernel_rfl), ho7 10 (by kernel_rfl), ho7 11 (by kernel_rfl), ho7 12 (by kernel_rfl), ho7 13 (by kernel_rfl), ho7 14 (by kernel_rfl), ho7 15 (by kernel_rfl), ho7 16 (by kernel_rfl), ho7 17 (by kernel_rfl), ho7 18 (by kernel_rfl), ho7 19 (by kernel_rfl), ho7 20 (by kernel_rfl), ho7 21 (by kernel_rfl), ho7 22 (by kernel_rfl), ho7 23 (by kernel_rfl), ho7 24 (by kernel_rfl), ho7 25 (by kernel_rfl), ho7 26 (by kernel_rfl), ho7 27 (by kernel_rfl), ho7 28 (by kernel_rfl), ho7 29 (by kernel_rfl), ho7 30 (by kernel_rfl), ho7 31 (by kernel_rfl), ho7 32 (by kernel_rfl), ho7 33 (by kernel_rfl), ho7 34 (by kernel_rfl), ho7 35 (by kernel_rfl), ho7 36 (by kernel_rfl), ho7 37 (by kernel_rfl), ho7 38 (by kernel_rfl), ho7 39 (by kernel_rfl), ho7 40 (by kernel_rfl), ho7 41 (by kernel_rfl), ho7 42 (by kernel_rfl), ho7 43 (by kernel_rfl), ho7 44 (by kernel_rfl), ho7 45 (by kernel_rfl), ho7 46 (by kernel_rfl), ho7 47 (by kernel_rfl), ho7 48 (by kernel_rfl), ho7 49 (by kernel_rfl), ho7 50 (by kernel_rfl), ho7 51 (by kernel_rfl), ho7 52 (by kernel_rfl), ho7 53 (by kernel_rfl), ho7 54 (by kernel_rfl), ho7 55 (by kernel_rfl), ho7 56 (by kernel_rfl), ho7 57 (by kernel_rfl), ho7 58 (by kernel_rfl), ho7 59 (by kernel_rfl), ho7 60 (by kernel_rfl), ho7 61 (by kernel_rfl), ho7 62 (by kernel_rfl), ho7 63 (by kernel_rfl), ho7 64 (by kernel_rfl), ho7 65 (by kernel_rfl), ho7 66 (by kernel_rfl), ho7 67 (by kernel_rfl), ho7 68 (by kernel_rfl), ho7 69 (by kernel_rfl), ho7 70 (by kernel_rfl), ho7 71 (by kernel_rfl), ho7 72 (by kernel_rfl), ho7 73 (by kernel_rfl), ho7 74 (by kernel_rfl), ho7 75 (by kernel_rfl), ho7 76 (by kernel_rfl), ho7 77 (by kernel_rfl), ho7 78 (by kernel_rfl), ho7 79 (by kernel_rfl), ho7 80 (by kernel_rfl), ho7 81 (by kernel_rfl), ho7 82 (by kernel_rfl), ho7 83 (by kernel_rfl), ho7 84 (by kernel_rfl), ho7 85 (by kernel_rfl), ho7 86 (by kernel_rfl), ho7 87 (by kernel_rfl), ho7 88 (by kernel_rfl), ho7 89 (by kernel_rfl), ho7 90 (by kernel_rfl), ho7 91 (by kernel_rfl), ho7 92 (by kernel_rfl), ho7 93 (by kernel_rfl), ho7 94 (by kernel_rfl), ho7 95 (by kernel_rfl), ho7 96 (by kernel_rfl), ho7 97 (by kernel_rfl), ho7 98 (by kernel_rfl), ho7 99 (by kernel_rfl), ho7 100 (by kernel_rfl), ho7 101 (by kernel_rfl), ho7 102 (by kernel_rfl), ho7 103 (by kernel_rfl), ho7 104 (by kernel_rfl), ho7 105 (by kernel_rfl), ho7 106 (by kernel_rfl), ho7 107 (by kernel_rfl), ho7 108 (by kernel_rfl), ho7 109 (by kernel_rfl), ho7 110 (by kernel_rfl), ho7 111 (by kernel_rfl), ho7 112 (by kernel_rfl), ho7 113 (by kernel_rfl), ho7 114 (by kernel_rfl), ho7 115 (by kernel_rfl), ho7 116 (by kernel_rfl), ho7 117 (by kernel_rfl)] at hE7
        obtain ⟨T7, D7⟩ := a7
        simp only at hE7 hd7
        subst hd7 hE7
        have HB7 := Lib.hid (HB4.out.trans (hb7.mono HB4.out.size))
        clear k118 k119 k120 k121 k122 k123 k124 k125 k126 k127 k128 k129 k130 k131 k132 k133 k134 k135 k136 k137 k138 k139 k140 hf7 hs7 ho7 hb7
        simp only [List.drop_succ_cons, List.drop_zero]
        go_wp2_with fail
        go_ret
        exact ⟨rfl, HB7.out⟩
  | none =>
    go_wp2_with fail
    refine (lex_ok s W1 (by omega) (HE.out.below HB1.out) hx).mono ?_
    rintro e W2 ⟨v, rfl, hV, hB2⟩
    have HB2 := Lib.hid (HB1.out.trans (hB2.mono HB1.out.size))
    have hNT : (s.toList == [110, 111, 116]) = notB s := rfl
    clear hB2 HB1
    cases hW : (notB s || (symbolB s || variableB s))
    · have hNW := @lex_no_word s hW
      simp only [Bool.or_eq_false_iff] at hW
      have HNT := hNT
      rw [hW.1] at HNT
      rw [hW.2.1] at HSY
      rw [hW.2.2] at HVR
      clear hW hNT
      obtain ⟨p1, cap1, rfl, hc1⟩ := hV
      by_cases hone : (lexAll s).length = 1
      · obtain ⟨x, hxl⟩ := List.length_eq_one_iff.1 hone
        obtain ⟨b, off, rfl, hlb, hc1⟩ := hc1 (by rw [hxl]; simp)
        obtain ⟨g0, g1, _⟩ := hc1 0 x (by rw [hxl]; rfl)
        simp only [Nat.zero_mul, Nat.add_zero] at g0 g1
        rw [hone]
        have hNW := hNW hxl
        by_cases hts : x.t = s
        · obtain ⟨n1, n2, n4⟩ := hNW hts
          have m1 : (x.k == 1) = false := by simpa using n1
          have m2 : (x.k == 2) = false := by simpa using n2
          have m4 : (x.k == 4) = false := by simpa using n4
          rw [hts] at g1
          have ns : (s.toList == s.toList) = true := by simp
          generalize x.k = xk at g0 m1 m2 m4
          clear hc1 hone hxl hNW hts n1 n2 n4 hx
          as_aux_lemma =>
            go_wp2_with (first | (go_at_call 10; refine (HSY.out _).mono ?_; rintro e w2 ⟨rfl, rfl⟩) | (go_at_call 11; refine (HVR.out _).mono ?_; rintro e w2 ⟨rfl, rfl⟩))
            obtain ⟨X, hX⟩ : ∃ X, W2.heap.size = X := ⟨_, rfl⟩
            obtain ⟨W3, hW3⟩ : ∃ W3, W2.alloc (.cells #[.int .u8 1, .int .i64 n, .string ⟨#[]⟩, .slice none 0 0] 36) = W3 := ⟨_, rfl⟩
            have hx3 : W3.heap[X]? = some (.cells #[.int .u8 1, .int .i64 n, .string ⟨#[]⟩, .slice none 0 0] 36 (0, 0)) := by rw [← hW3, ← hX]; exact World.alloc_heap_new _ _
            have hB3 : Below w.heap.size w W3 := by rw [← hW3]; exact HB2.out.alloc HB2.out.size _
            have hXw : w.heap.size ≤ X := by rw [← hX]; exact HB2.out.size
            have y0 := cells_at hx3 0 _ rfl
            have y1 := cells_at hx3 1 _ rfl
            have y2 := cells_at hx3 2 _ rfl
            have y3 := cells_at hx3 3 _ rfl
            have HX3 := Lib.hid hx3
            have HB3 := Lib.hid hB3
            clear hx3 hB3
            first | rw [hW3] | skip
            go_wp2_with fail
            first | rw [hW3] | skip
            refine (HST.out W3 HB3.out).mono ?_
            rintro e W4 ⟨rfl, hB4⟩
            have HB4 := Lib.hid (HB3.out.trans (hB4.mono HB3.out.size))
            have HX4 := Lib.hid ((hB4.block X (Array.getElem?_eq_some_iff.1 HX3.out).1).trans HX3.out)
            clear hB4 y0 y1 y2 y3 HB3 HX3
            clear hW3
            rcases HCS.out with ⟨hv, hst⟩ | ⟨hv, hun, hn0, u, hu, hst⟩ | ⟨hv, hun, hn0, u, hu, hst⟩
            · rw [hst]
              rw [hv] at HVA
              go_wp2_with fail
              refine (lex_ok _ W4 (by decide) (HE.out.below HB4.out) empty_err).mono ?_
              rintro e W5 ⟨k5, rfl, hk5, hB5⟩
              have HB5 := Lib.hid (HB4.out.trans (hB5.mono HB4.out.size))
              have HX5 := Lib.hid ((hB5.block X (Array.getElem?_eq_some_iff.1 HX4.out).1).trans HX4.out)
              clear hB5 HB4 HX4
              rw [empty_all] at hk5
              obtain ⟨p5, cap5, rfl, _⟩ := hk5
              have y0 := cells_at HX5.out 0 _ rfl
              have y1 := cells_at HX5.out 1 _ rfl
              have y2 := cells_at HX5.out 2 _ rfl
              have y3 := cells_at HX5.out 3 _ rfl
              go_wp2_with fail
              refine (HVA.out W5 HB5.out).mono ?_
              rintro e W6 ⟨rfl, hB6⟩
              have HB6 := Lib.hid (HB5.out.trans (hB6.mono HB5.out.size))
              have HX6 := Lib.hid ((hB6.block X (Array.getElem?_eq_some_iff.1 HX5.out).1).trans HX5.out)
              clear y0 y1 y2 y3
              clear hB6 HB5 HX5
              go_wp2_with fail
              go_ret
              exact ⟨rfl, HB6.out⟩
            · rw [hst]
              rw [hv] at HVA
              obtain ⟨ty, tz, hall, herr, hty, htz⟩ := lex_neg hu
              have hdn : decide ((n : Int) < 0) = true := decide_eq_true hn0
              go_wp2_with fail
              refine (lex_ok _ W4 (by rw [negB_size]; have := dec_len hu; omega) (HE.out.below HB4.out) herr).mono ?_
              rintro e W5 ⟨k5, rfl, hk5, hB5⟩
              have HB5 := Lib.hid (HB4.out.trans (hB5.mono HB4.out.size))
              have HX5 := Lib.hid ((hB5.block X (Array.getElem?_eq_some_iff.1 HX4.out).1).trans HX4.out)
              clear hB5 HB4 HX4
              rw [hall] at hk5
              obtain ⟨p5, cap5, rfl, hc5⟩ := hk5
              obtain ⟨b2, off2, rfl, hlb2, hc5⟩ := hc5 (by simp)
              have q1 := (hc5 0 ty rfl).2.1
              have q3 := (hc5 1 tz rfl).1
              rw [hty] at q1
              rw [htz] at q3
              rw [Nat.zero_mul, Nat.add_zero] at q1
              rw [Nat.one_mul] at q3
              have y0 := cells_at HX5.out 0 _ rfl
              have y1 := cells_at HX5.out 1 _ rfl
              have y2 := cells_at HX5.out 2 _ rfl
              have y3 := cells_at HX5.out 3 _ rfl
              go_wp2_with fail
              refine (HVA.out W5 HB5.out).mono ?_
              rintro e W6 ⟨rfl, hB6⟩
              have HB6 := Lib.hid (HB5.out.trans (hB6.mono HB5.out.size))
              have HX6 := Lib.hid ((hB6.block X (Array.getElem?_eq_some_iff.1 HX5.out).1).trans HX5.out)
              clear y0 y1 y2 y3
              have q1 := (hB6.cell (p := ⟨b2, off2 + 1, none⟩) hlb2).trans q1
              have q3 := (hB6.cell (p := ⟨b2, off2 + 3, none⟩) hlb2).trans q3
              have e45 : ((⟨#[45]⟩ : ByteArray).toList == [45]) = true := by decide +kernel
              clear hB6 HB5 HX5 hc5 hst hall herr hty htz hun
              go_wp2_with fail
              go_ret
              exact ⟨rfl, HB6.out⟩
            · rw [hst]
              rw [hv] at HVA
              obtain ⟨hall, herr⟩ := lex_dec hu
              have hdn : decide ((n : Int) < 0) = false := decide_eq_false (by omega)
              go_wp2_with fail
              refine (lex_ok _ W4 (by rw [decB_size]; have := dec_len hu; omega) (HE.out.below HB4.out) herr).mono ?_
              rintro e W5 ⟨k5, rfl, hk5, hB5⟩
              have HB5 := Lib.hid (HB4.out.trans (hB5.mono HB4.out.size))
              have HX5 := Lib.hid ((hB5.block X (Array.getElem?_eq_some_iff.1 HX4.out).1).trans HX4.out)
              clear hB5 HB4 HX4
              rw [hall] at hk5
              obtain ⟨p5, cap5, rfl, hc5⟩ := hk5
              obtain ⟨b2, off2, rfl, hlb2, hc5⟩ := hc5 (by simp)
              obtain ⟨q0, q1, _⟩ := hc5 0 _ rfl
              simp only [Nat.zero_mul, Nat.add_zero] at q0 q1
              have y0 := cells_at HX5.out 0 _ rfl
              have y1 := cells_at HX5.out 1 _ rfl
              have y2 := cells_at HX5.out 2 _ rfl
              have y3 := cells_at HX5.out 3 _ rfl
              go_wp2_with fail
              refine (HVA.out W5 HB5.out).mono ?_
              rintro e W6 ⟨rfl, hB6⟩
              have HB6 := Lib.hid (HB5.out.trans (hB6.mono HB5.out.size))
              have HX6 := Lib.hid ((hB6.block X (Array.getElem?_eq_some_iff.1 HX5.out).1).trans HX5.out)
              clear y0 y1 y2 y3
              have q0 := (hB6.cell (p := ⟨b2, off2, none⟩) hlb2).trans q0
              have q1 := (hB6.cell (p := ⟨b2, off2 + 1, none⟩) hlb2).trans q1
              have hlb2 := Nat.lt_of_lt_of_le hlb2 hB6.size
              have y0 := cells_at HX6.out 0 _ rfl
              have y1 := cells_at HX6.out 1 _ rfl
              have y2 := cells_at HX6.out 2 _ rfl
              have y3 := cells_at HX6.out 3 _ rfl
              have hlx := (Array.getElem?_eq_some_iff.1 HX6.out).1
              have HS5 : Hid (∀ wx, Below W6.heap.size W6 wx → Calls Tryz.prog 12 #[.agg #[.int .u8 1, .int .i64 n, .string ⟨#[]⟩, .slice none 0 0]] wx fun e w' => e = .returned (.string (decB u)) ∧ Below wx.heap.size wx w') := Lib.hid (fun wx hwx => by
                rw [← hst]; exact HST.out wx (HB6.out.trans (hwx.mono HB6.out.size)))
              have HB4 := HB6
              have nd : ((decB u).toList == (decB u).toList) = true := by simp
              clear hB6 HB5 HX5 HB6 HX6 hc5 hall herr hst hun HST HVA HCS
              go_wp2_with fail
              refine wp_region_grow_tail (by kernel_rfl) 23 (FQ [ .val (.int .i64 0), .val (.bool true), .val (.bool true), .val (.slice (some ⟨b2, off2, none⟩) 1 cap5), .val (.int .i64 1), .val (.bool true), .val (.bool true), .val (.bool true), .val (.slice (some ⟨b2, off2, none⟩) 1 cap5), .val (.pointer (some ⟨b2, off2, none⟩)), .val (.pointer (some ⟨b2, off2, none⟩)), .val (.int .u8 3), .val (.bool true), .val (.bool true), .val (.bool true), .val (.slice (some ⟨b2, off2, none⟩) 1 cap5), .val (.pointer (some ⟨b2, off2, none⟩)), .val (.pointer (some ⟨b2, off2 + 1, none⟩)), .val (.string (decB u)), .val (.agg #[.int .u8 1, .int .i64 n, .string ⟨#[]⟩, .slice none 0 0]), .val (.string (decB u)), .val (.bool true), .val (.bool true)]) (FQ_grow _) (by kernel_rfl) (by kernel_rfl) (steps_to ?_) ?_
              · simp only [List.take_succ_cons, List.take_zero]
                refine ⟨?_, ?_, ?_, ?_, ?_, ?_, ?_, ?_, ?_, ?_, ?_, ?_, ?_, ?_, ?_, ?_, ?_, ?_, ?_, ?_, ?_, ?_, ?_, trivial⟩
                · intro a wx hb hd hs ho hp
                  refine ⟨rfl, ?_⟩
                  have h12 : a.tmps.getD 12 undef = _ := (ho 12 (by kernel_rfl)).trans rfl
                  unfold Oper.wp
                  go_simp
                  exact Stepped.at rfl hd (Below.refl _ _) (FQ_mk (.val (.int .i64 0)) rfl (by first | rfl | simp))
                · intro a wx hb hd hs ho hp
                  refine ⟨rfl, ?_⟩
                  have h118 : a.tmps.getD 118 undef = .int .i64 0 := qval_at hp 0 118 (by kernel_rfl) rfl
                  unfold Oper.wp
                  go_simp
                  exact Stepped.at rfl hd (Below.refl _ _) (FQ_mk (.val (.bool true)) rfl (by first | rfl | simp))
                · intro a wx hb hd hs ho hp
                  refine ⟨rfl, ?_⟩
                  have h119 : a.tmps.getD 119 undef = .bool true := qval_at hp 1 119 (by kernel_rfl) rfl
                  unfold Oper.wp
                  go_simp
                  exact Stepped.at rfl hd (Below.refl _ _) (FQ_mk (.val (.bool true)) rfl (by first | rfl | simp))
                · intro a wx hb hd hs ho hp
                  refine ⟨wanted_true rfl (yielded_at (k := 2) (d := 120) (by kernel_rfl) (qval_at hp 2 120 (by kernel_rfl) rfl)), ?_⟩
                  have h10 : a.tmps.getD 10 undef = _ := (ho 10 (by kernel_rfl)).trans rfl
                  unfold Oper.wp
                  go_simp
                  exact Stepped.at rfl hd (Below.refl _ _) (FQ_mk (.val (.slice (some ⟨b2, off2, none⟩) 1 cap5)) rfl (by first | rfl | simp))
                · intro a wx hb hd hs ho hp
                  refine ⟨wanted_true rfl (yielded_at (k := 2) (d := 120) (by kernel_rfl) (qval_at hp 2 120 (by kernel_rfl) rfl)), ?_⟩
                  have h121 : a.tmps.getD 121 undef = .slice (some ⟨b2, off2, none⟩) 1 cap5 := qval_at hp 3 121 (by kernel_rfl) rfl
                  unfold Oper.wp
                  go_simp
                  exact Stepped.at rfl hd (Below.refl _ _) (FQ_mk (.val (.int .i64 1)) rfl (by first | rfl | simp))
                · intro a wx hb hd hs ho hp
                  refine ⟨wanted_true rfl (yielded_at (k := 2) (d := 120) (by kernel_rfl) (qval_at hp 2 120 (by kernel_rfl) rfl)), ?_⟩
                  have h122 : a.tmps.getD 122 undef = .int .i64 1 := qval_at hp 4 122 (by kernel_rfl) rfl
                  unfold Oper.wp
                  go_simp
                  exact Stepped.at rfl hd (Below.refl _ _) (FQ_mk (.val (.bool true)) rfl (by first | rfl | simp))
                · intro a wx hb hd hs ho hp
                  refine ⟨rfl, ?_⟩
                  have h120 : a.tmps.getD 120 undef = .bool true := qval_at hp 2 120 (by kernel_rfl) rfl
                  have h123 : a.tmps.getD 123 undef = .bool true := qval_at hp 5 123 (by kernel_rfl) rfl
                  unfold Oper.wp
                  go_simp
                  exact Stepped.at rfl hd (Below.refl _ _) (FQ_mk (.val (.bool true)) rfl (by first | rfl | simp))
                · intro a wx hb hd hs ho hp
                  refine ⟨rfl, ?_⟩
                  have h124 : a.tmps.getD 124 undef = .bool true := qval_at hp 6 124 (by kernel_rfl) rfl
                  unfold Oper.wp
                  go_simp
                  exact Stepped.at rfl hd (Below.refl _ _) (FQ_mk (.val (.bool true)) rfl (by first | rfl | simp))
                · intro a wx hb hd hs ho hp
                  refine ⟨wanted_true rfl (yielded_at (k := 7) (d := 125) (by kernel_rfl) (qval_at hp 7 125 (by kernel_rfl) rfl)), ?_⟩
                  have h10 : a.tmps.getD 10 undef = _ := (ho 10 (by kernel_rfl)).trans rfl
                  unfold Oper.wp
                  go_simp
                  exact Stepped.at rfl hd (Below.refl _ _) (FQ_mk (.val (.slice (some ⟨b2, off2, none⟩) 1 cap5)) rfl (by first | rfl | simp))
                · intro a wx hb hd hs ho hp
                  refine ⟨wanted_true rfl (yielded_at (k := 7) (d := 125) (by kernel_rfl) (qval_at hp 7 125 (by kernel_rfl) rfl)), ?_⟩
                  have h126 : a.tmps.getD 126 undef = .slice (some ⟨b2, off2, none⟩) 1 cap5 := qval_at hp 8 126 (by kernel_rfl) rfl
                  unfold Oper.wp
                  go_simp
                  exact Stepped.at rfl hd (Below.refl _ _) (FQ_mk (.val (.pointer (some ⟨b2, off2, none⟩))) rfl (by first | rfl | simp))
                · intro a wx hb hd hs ho hp
                  refine ⟨wanted_true rfl (yielded_at (k := 7) (d := 125) (by kernel_rfl) (qval_at hp 7 125 (by kernel_rfl) rfl)), ?_⟩
                  have h127 : a.tmps.getD 127 undef = .pointer (some ⟨b2, off2, none⟩) := qval_at hp 9 127 (by kernel_rfl) rfl
                  unfold Oper.wp
                  go_simp
                  exact Stepped.at rfl hd (Below.refl _ _) (FQ_mk (.val (.pointer (some ⟨b2, off2, none⟩))) rfl (by first | rfl | simp))
                · intro a wx hb hd hs ho hp
                  refine ⟨wanted_true rfl (yielded_at (k := 7) (d := 125) (by kernel_rfl) (qval_at hp 7 125 (by kernel_rfl) rfl)), ?_⟩
                  have h128 : a.tmps.getD 128 undef = .pointer (some ⟨b2, off2, none⟩) := qval_at hp 10 128 (by kernel_rfl) rfl
                  have x0 := (hb.cell (p := ⟨b2, off2, none⟩) hlb2).trans q0
                  unfold Oper.wp
                  go_simp
                  exact Stepped.at rfl hd (Below.refl _ _) (FQ_mk (.val (.int .u8 3)) rfl rfl)
                · intro a wx hb hd hs ho hp
                  refine ⟨wanted_true rfl (yielded_at (k := 7) (d := 125) (by kernel_rfl) (qval_at hp 7 125 (by kernel_rfl) rfl)), ?_⟩
                  have h129 : a.tmps.getD 129 undef = .int .u8 3 := qval_at hp 11 129 (by kernel_rfl) rfl
                  unfold Oper.wp
                  go_simp
                  exact Stepped.at rfl hd (Below.refl _ _) (FQ_mk (.val (.bool true)) rfl (by first | rfl | simp))
                · intro a wx hb hd hs ho hp
                  refine ⟨rfl, ?_⟩
                  have h125 : a.tmps.getD 125 undef = .bool true := qval_at hp 7 125 (by kernel_rfl) rfl
                  have h130 : a.tmps.getD 130 undef = .bool true := qval_at hp 12 130 (by kernel_rfl) rfl
                  unfold Oper.wp
                  go_simp
                  exact Stepped.at rfl hd (Below.refl _ _) (FQ_mk (.val (.bool true)) rfl (by first | rfl | simp))
                · intro a wx hb hd hs ho hp
                  refine ⟨rfl, ?_⟩
                  have h131 : a.tmps.getD 131 undef = .bool true := qval_at hp 13 131 (by kernel_rfl) rfl
                  unfold Oper.wp
                  go_simp
                  exact Stepped.at rfl hd (Below.refl _ _) (FQ_mk (.val (.bool true)) rfl (by first | rfl | simp))
                · intro a wx hb hd hs ho hp
                  refine ⟨wanted_true rfl (yielded_at (k := 14) (d := 132) (by kernel_rfl) (qval_at hp 14 132 (by kernel_rfl) rfl)), ?_⟩
                  have h10 : a.tmps.getD 10 undef = _ := (ho 10 (by kernel_rfl)).trans rfl
                  unfold Oper.wp
                  go_simp
                  exact Stepped.at rfl hd (Below.refl _ _) (FQ_mk (.val (.slice (some ⟨b2, off2, none⟩) 1 cap5)) rfl (by first | rfl | simp))
                · intro a wx hb hd hs ho hp
                  refine ⟨wanted_true rfl (yielded_at (k := 14) (d := 132) (by kernel_rfl) (qval_at hp 14 132 (by kernel_rfl) rfl)), ?_⟩
                  have h133 : a.tmps.getD 133 undef = .slice (some ⟨b2, off2, none⟩) 1 cap5 := qval_at hp 15 133 (by kernel_rfl) rfl
                  unfold Oper.wp
                  go_simp
                  exact Stepped.at rfl hd (Below.refl _ _) (FQ_mk (.val (.pointer (some ⟨b2, off2, none⟩))) rfl (by first | rfl | simp))
                · intro a wx hb hd hs ho hp
                  refine ⟨wanted_true rfl (yielded_at (k := 14) (d := 132) (by kernel_rfl) (qval_at hp 14 132 (by kernel_rfl) rfl)), ?_⟩
                  have h134 : a.tmps.getD 134 undef = .pointer (some ⟨b2, off2, none⟩) := qval_at hp 16 134 (by kernel_rfl) rfl
                  unfold Oper.wp
                  go_simp
                  exact Stepped.at rfl hd (Below.refl _ _) (FQ_mk (.val (.pointer (some ⟨b2, off2 + 1, none⟩))) rfl (by first | rfl | simp))
                · intro a wx hb hd hs ho hp
                  refine ⟨wanted_true rfl (yielded_at (k := 14) (d := 132) (by kernel_rfl) (qval_at hp 14 132 (by kernel_rfl) rfl)), ?_⟩
                  have h135 : a.tmps.getD 135 undef = .pointer (some ⟨b2, off2 + 1, none⟩) := qval_at hp 17 135 (by kernel_rfl) rfl
                  have x0 := (hb.cell (p := ⟨b2, off2 + 1, none⟩) hlb2).trans q1
                  unfold Oper.wp
                  go_simp
                  exact Stepped.at rfl hd (Below.refl _ _) (FQ_mk (.val (.string (decB u))) rfl rfl)
                · intro a wx hb hd hs ho hp
                  refine ⟨wanted_true rfl (yielded_at (k := 14) (d := 132) (by kernel_rfl) (qval_at hp 14 132 (by kernel_rfl) rfl)), ?_⟩
                  have h9 : a.tmps.getD 9 undef = _ := (ho 9 (by kernel_rfl)).trans rfl
                  have x0 := (hb.cell (p := ⟨X, 0, none⟩) hlx).trans y0
                  have x1 := (hb.cell (p := ⟨X, 1, none⟩) hlx).trans y1
                  have x2 := (hb.cell (p := ⟨X, 2, none⟩) hlx).trans y2
                  have x3 := (hb.cell (p := ⟨X, 3, none⟩) hlx).trans y3
                  unfold Oper.wp
                  go_simp
                  exact Stepped.at rfl hd (Below.refl _ _) (FQ_mk (.val (.agg #[.int .u8 1, .int .i64 n, .string ⟨#[]⟩, .slice none 0 0])) rfl rfl)
                · intro a wx hb hd hs ho hp
                  refine ⟨wanted_true rfl (yielded_at (k := 14) (d := 132) (by kernel_rfl) (qval_at hp 14 132 (by kernel_rfl) rfl)), ?_⟩
                  have h137 : a.tmps.getD 137 undef = .agg #[.int .u8 1, .int .i64 n, .string ⟨#[]⟩, .slice none 0 0] := qval_at hp 19 137 (by kernel_rfl) rfl
                  unfold Oper.wp
                  go_simp
                  refine ((HS5.out wx hb)).mono ?_
                  rintro e w2 ⟨rfl, hb2⟩
                  exact Stepped.at rfl hd hb2 (FQ_mk (.val (.string (decB u))) rfl rfl)
                · intro a wx hb hd hs ho hp
                  refine ⟨wanted_true rfl (yielded_at (k := 14) (d := 132) (by kernel_rfl) (qval_at hp 14 132 (by kernel_rfl) rfl)), ?_⟩
                  have h136 : a.tmps.getD 136 undef = .string (decB u) := qval_at hp 18 136 (by kernel_rfl) rfl
                  have h138 : a.tmps.getD 138 undef = .string (decB u) := qval_at hp 20 138 (by kernel_rfl) rfl
                  unfold Oper.wp
                  go_simp
                  exact Stepped.at rfl hd (Below.refl _ _) (FQ_mk (.val (.bool true)) rfl (by first | rfl | simp))
                · intro a wx hb hd hs ho hp
                  refine ⟨rfl, ?_⟩
                  have h132 : a.tmps.getD 132 undef = .bool true := qval_at hp 14 132 (by kernel_rfl) rfl
                  have h139 : a.tmps.getD 139 undef = .bool true := qval_at hp 21 139 (by kernel_rfl) rfl
                  unfold Oper.wp
                  go_simp
                  exact Stepped.at rfl hd (Below.refl _ _) (FQ_mk (.val (.bool true)) rfl (by first | rfl | simp))
              intro a7 w7 hb7 hd7 hs7 ho7 hf7
              have k118 : a7.tmps.getD 118 undef = .int .i64 0 := FQ_at (.val (.int .i64 0)) rfl (facts_to hf7 0 118 (by decide) (by kernel_rfl))
              have k119 : a7.tmps.getD 119 undef = .bool true := FQ_at (.val (.bool true)) rfl (facts_to hf7 1 119 (by decide) (by kernel_rfl))
              have k120 : a7.tmps.getD 120 undef = .bool true := FQ_at (.val (.bool true)) rfl (facts_to hf7 2 120 (by decide) (by kernel_rfl))
              have k121 : a7.tmps.getD 121 undef = .slice (some ⟨b2, off2, none⟩) 1 cap5 := FQ_at (.val (.slice (some ⟨b2, off2, none⟩) 1 cap5)) rfl (facts_to hf7 3 121 (by decide) (by kernel_rfl))
              have k122 : a7.tmps.getD 122 undef = .int .i64 1 := FQ_at (.val (.int .i64 1)) rfl (facts_to hf7 4 122 (by decide) (by kernel_rfl))
              have k123 : a7.tmps.getD 123 undef = .bool true := FQ_at (.val (.bool true)) rfl (facts_to hf7 5 123 (by decide) (by kernel_rfl))
              have k124 : a7.tmps.getD 124 undef = .bool true := FQ_at (.val (.bool true)) rfl (facts_to hf7 6 124 (by decide) (by kernel_rfl))
              have k125 : a7.tmps.getD 125 undef = .bool true := FQ_at (.val (.bool true)) rfl (facts_to hf7 7 125 (by decide) (by kernel_rfl))
              have k126 : a7.tmps.getD 126 undef = .slice (some ⟨b2, off2, none⟩) 1 cap5 := FQ_at (.val (.slice (some ⟨b2, off2, none⟩) 1 cap5)) rfl (facts_to hf7 8 126 (by decide) (by kernel_rfl))
              have k127 : a7.tmps.getD 127 undef = .pointer (some ⟨b2, off2, none⟩) := FQ_at (.val (.pointer (some ⟨b2, off2, none⟩))) rfl (facts_to hf7 9 127 (by decide) (by kernel_rfl))
              have k128 : a7.tmps.getD 128 undef = .pointer (some ⟨b2, off2, none⟩) := FQ_at (.val (.pointer (some ⟨b2, off2, none⟩))) rfl (facts_to hf7 10 128 (by decide) (by kernel_rfl))
              have k129 : a7.tmps.getD 129 undef = .int .u8 3 := FQ_at (.val (.int .u8 3)) rfl (facts_to hf7 11 129 (by decide) (by kernel_rfl))
              have k130 : a7.tmps.getD 130 undef = .bool true := FQ_at (.val (.bool true)) rfl (facts_to hf7 12 130 (by decide) (by kernel_rfl))
              have k131 : a7.tmps.getD 131 undef = .bool true := FQ_at (.val (.bool true)) rfl (facts_to hf7 13 131 (by decide) (by kernel_rfl))
              have k132 : a7.tmps.getD 132 undef = .bool true := FQ_at (.val (.bool true)) rfl (facts_to hf7 14 132 (by decide) (by kernel_rfl))
              have k133 : a7.tmps.getD 133 undef = .slice (some ⟨b2, off2, none⟩) 1 cap5 := FQ_at (.val (.slice (some ⟨b2, off2, none⟩) 1 cap5)) rfl (facts_to hf7 15 133 (by decide) (by kernel_rfl))
              have k134 : a7.tmps.getD 134 undef = .pointer (some ⟨b2, off2, none⟩) := FQ_at (.val (.pointer (some ⟨b2, off2, none⟩))) rfl (facts_to hf7 16 134 (by decide) (by kernel_rfl))
              have k135 : a7.tmps.getD 135 undef = .pointer (some ⟨b2, off2 + 1, none⟩) := FQ_at (.val (.pointer (some ⟨b2, off2 + 1, none⟩))) rfl (facts_to hf7 17 135 (by decide) (by kernel_rfl))
              have k136 : a7.tmps.getD 136 undef = .string (decB u) := FQ_at (.val (.string (decB u))) rfl (facts_to hf7 18 136 (by decide) (by kernel_rfl))
              have k137 : a7.tmps.getD 137 undef = .agg #[.int .u8 1, .int .i64 n, .string ⟨#[]⟩, .slice none 0 0] := FQ_at (.val (.agg #[.int .u8 1, .int .i64 n, .string ⟨#[]⟩, .slice none 0 0])) rfl (facts_to hf7 19 137 (by decide) (by kernel_rfl))
              have k138 : a7.tmps.getD 138 undef = .string (decB u) := FQ_at (.val (.string (decB u))) rfl (facts_to hf7 20 138 (by decide) (by kernel_rfl))
              have k139 : a7.tmps.getD 139 undef = .bool true := FQ_at (.val (.bool true)) rfl (facts_to hf7 21 139 (by decide) (by kernel_rfl))
              have k140 : a7.tmps.getD 140 undef = .bool true := FQ_at (.val (.bool true)) rfl (facts_to hf7 22 140 (by decide) (by kernel_rfl))
              have hE7 := slots_all a7.tmps 141 (hs7.trans rfl)
              simp only [List.range, List.range.loop, List.map, k118, k119, k120, k121, k122, k123, k124, k125, k126, k127, k128, k129, k130, k131, k132, k133, k134, k135, k136, k137, k138, k139, k140, ho7 0 (by kernel_rfl), ho7 1 (by kernel_rfl), ho7 2 (by kernel_rfl), ho7 3 (by kernel_rfl), ho7 4 (by kernel_rfl), ho7 5 (by kernel_rfl), ho7 6 (by kernel_rfl), ho7 7 (by kernel_rfl), ho7 8 (by kernel_rfl), ho7 9 (by kernel_rfl), ho7 10 (by kernel_rfl), ho7 11 (by kernel_rfl), ho7 12 (by kernel_rfl), ho7 13 (by kernel_rfl), ho7 14 (by kernel_rfl), ho7 15 (by kernel_rfl), ho7 16 (by kernel_rfl), ho7 17 (by kernel_rfl), ho7 18 (by kernel_rfl), ho7 19 (by kernel_rfl), ho7 20 (by kernel_rfl), ho7 21 (by kernel_rfl), ho7 22 (by kernel_rfl), ho7 23 (by kernel_rfl), ho7 24 (by kernel_rfl), ho7 25 (by kernel_rfl), ho7 26 (by kernel_rfl), ho7 27 (by kernel_rfl), ho7 28 (by kernel_rfl), ho7 29 (by kernel_rfl), ho7 30 (by kernel_rfl), ho7 31 (by kernel_rfl), ho7 32 (by kernel_rfl), ho7 33 (by kernel_rfl), ho7 34 (by kernel_rfl), ho7 35 (by kernel_rfl), ho7 36 (by kernel_rfl), ho7 37 (by kernel_rfl), ho7 38 (by kernel_rfl), ho7 39 (by kernel_rfl), ho7 40 (by kernel_rfl), ho7 41 (by kernel_rfl), ho7 42 (by kernel_rfl), ho7 43 (by kernel_rfl), ho7 44 (by kernel_rfl), ho7 45 (by kernel_rfl), ho7 46 (by kernel_rfl), ho7 47 (by kernel_rfl), ho7 48 (by kernel_rfl), ho7 49 (by kernel_rfl), ho7 50 (by kernel_rfl), ho7 51 (by kernel_rfl), ho7 52 (by kernel_rfl), ho7 53 (by kernel_rfl), ho7 54 (by kernel_rfl), ho7 55 (by kernel_rfl), ho7 56 (by kernel_rfl), ho7 57 (by kernel_rfl), ho7 58 (by kernel_rfl), ho7 59 (by kernel_rfl), ho7 60 (by kernel_rfl), ho7 61 (by kernel_rfl), ho7 62 (by kernel_rfl), ho7 63 (by kernel_rfl), ho7 64 (by kernel_rfl), ho7 65 (by kernel_rfl), ho7 66 (by kernel_rfl), ho7 67 (by kernel_rfl), ho7 68 (by kernel_rfl), ho7 69 (by kernel_rfl), ho7 70 (by kernel_rfl), ho7 71 (by kernel_rfl), ho7 72 (by kernel_rfl), ho7 73 (by kernel_rfl), ho7 74 (by kernel_rfl), ho7 75 (by kernel_rfl), ho7 76 (by kernel_rfl), ho7 77 (by kernel_rfl), ho7 78 (by kernel_rfl), ho7 79 (by kernel_rfl), ho7 80 (by kernel_rfl), ho7 81 (by kernel_rfl), ho7 82 (by kernel_rfl), ho7 83 (by kernel_rfl), ho7 84 (by kernel_rfl), ho7 85 (by kernel_rfl), ho7 86 (by kernel_rfl), ho7 87 (by kernel_rfl), ho7 88 (by kernel_rfl), ho7 89 (by kernel_rfl), ho7 90 (by kernel_rfl), ho7 91 (by kernel_rfl), ho7 92 (by kernel_rfl), ho7 93 (by kernel_rfl), ho7 94 (by kernel_rfl), ho7 95 (by kernel_rfl), ho7 96 (by kernel_rfl), ho7 97 (by kernel_rfl), ho7 98 (by kernel_rfl), ho7 99 (by kernel_rfl), ho7 100 (by kernel_rfl), ho7 101 (by kernel_rfl), ho7 102 (by kernel_rfl), ho7 103 (by kernel_rfl), ho7 104 (by kernel_rfl), ho7 105 (by kernel_rfl), ho7 106 (by kernel_rfl), ho7 107 (by kernel_rfl), ho7 108 (by kernel_rfl), ho7 109 (by kernel_rfl), ho7 110 (by kernel_rfl), ho7 111 (by kernel_rfl), ho7 112 (by kernel_rfl), ho7 113 (by kernel_rfl), ho7 114 (by kernel_rfl), ho7 115 (by kernel_rfl), ho7 116 (by kernel_rfl), ho7 117 (by kernel_rfl)] at hE7
              obtain ⟨T7, D7⟩ := a7
              simp only at hE7 hd7
              subst hd7 hE7
              have HB7 := Lib.hid (HB4.out.trans (hb7.mono HB4.out.size))
              clear k118 k119 k120 k121 k122 k123 k124 k125 k126 k127 k128 k129 k130 k131 k132 k133 k134 k135 k136 k137 k138 k139 k140 hf7 hs7 ho7 hb7
              simp only [List.drop_succ_cons, List.drop_zero]
              go_wp2_with fail
              go_ret
              exact ⟨rfl, HB7.out⟩
        · have ns : (x.t.toList == s.toList) = false := by
            rw [beq_eq_false_iff_ne]; intro h
            apply hts
            rw [toList_data, toList_data] at h
            generalize x.t = y at h
            cases s; cases y; congr; exact Array.toList_inj.1 h
          generalize x.t = xt at g1 ns
          clear hc1 hone hxl hNW hts hx
          as_aux_lemma =>
            go_wp2_with (first | (go_at_call 10; refine (HSY.out _).mono ?_; rintro e w2 ⟨rfl, rfl⟩) | (go_at_call 11; refine (HVR.out _).mono ?_; rintro e w2 ⟨rfl, rfl⟩))
            obtain ⟨X, hX⟩ : ∃ X, W2.heap.size = X := ⟨_, rfl⟩
            obtain ⟨W3, hW3⟩ : ∃ W3, W2.alloc (.cells #[.int .u8 1, .int .i64 n, .string ⟨#[]⟩, .slice none 0 0] 36) = W3 := ⟨_, rfl⟩
            have hx3 : W3.heap[X]? = some (.cells #[.int .u8 1, .int .i64 n, .string ⟨#[]⟩, .slice none 0 0] 36 (0, 0)) := by rw [← hW3, ← hX]; exact World.alloc_heap_new _ _
            have hB3 : Below w.heap.size w W3 := by rw [← hW3]; exact HB2.out.alloc HB2.out.size _
            have hXw : w.heap.size ≤ X := by rw [← hX]; exact HB2.out.size
            have y0 := cells_at hx3 0 _ rfl
            have y1 := cells_at hx3 1 _ rfl
            have y2 := cells_at hx3 2 _ rfl
            have y3 := cells_at hx3 3 _ rfl
            have HX3 := Lib.hid hx3
            have HB3 := Lib.hid hB3
            clear hx3 hB3
            first | rw [hW3] | skip
            go_wp2_with fail
            first | rw [hW3] | skip
            refine (HST.out W3 HB3.out).mono ?_
            rintro e W4 ⟨rfl, hB4⟩
            have HB4 := Lib.hid (HB3.out.trans (hB4.mono HB3.out.size))
            have HX4 := Lib.hid ((hB4.block X (Array.getElem?_eq_some_iff.1 HX3.out).1).trans HX3.out)
            clear hB4 y0 y1 y2 y3 HB3 HX3
            clear hW3
            rcases HCS.out with ⟨hv, hst⟩ | ⟨hv, hun, hn0, u, hu, hst⟩ | ⟨hv, hun, hn0, u, hu, hst⟩
            · rw [hst]
              rw [hv] at HVA
              go_wp2_with fail
              refine (lex_ok _ W4 (by decide) (HE.out.below HB4.out) empty_err).mono ?_
              rintro e W5 ⟨k5, rfl, hk5, hB5⟩
              have HB5 := Lib.hid (HB4.out.trans (hB5.mono HB4.out.size))
              have HX5 := Lib.hid ((hB5.block X (Array.getElem?_eq_some_iff.1 HX4.out).1).trans HX4.out)
              clear hB5 HB4 HX4
              rw [empty_all] at hk5
              obtain ⟨p5, cap5, rfl, _⟩ := hk5
              have y0 := cells_at HX5.out 0 _ rfl
              have y1 := cells_at HX5.out 1 _ rfl
              have y2 := cells_at HX5.out 2 _ rfl
              have y3 := cells_at HX5.out 3 _ rfl
              go_wp2_with fail
              refine (HVA.out W5 HB5.out).mono ?_
              rintro e W6 ⟨rfl, hB6⟩
              have HB6 := Lib.hid (HB5.out.trans (hB6.mono HB5.out.size))
              have HX6 := Lib.hid ((hB6.block X (Array.getElem?_eq_some_iff.1 HX5.out).1).trans HX5.out)
              clear y0 y1 y2 y3
              clear hB6 HB5 HX5
              go_wp2_with fail
              go_ret
              exact ⟨rfl, HB6.out⟩
            · rw [hst]
              rw [hv] at HVA
              obtain ⟨ty, tz, hall, herr, hty, htz⟩ := lex_neg hu
              have hdn : decide ((n : Int) < 0) = true := decide_eq_true hn0
              go_wp2_with fail
              refine (lex_ok _ W4 (by rw [negB_size]; have := dec_len hu; omega) (HE.out.below HB4.out) herr).mono ?_
              rintro e W5 ⟨k5, rfl, hk5, hB5⟩
              have HB5 := Lib.hid (HB4.out.trans (hB5.mono HB4.out.size))
              have HX5 := Lib.hid ((hB5.block X (Array.getElem?_eq_some_iff.1 HX4.out).1).trans HX4.out)
              clear hB5 HB4 HX4
              rw [hall] at hk5
              obtain ⟨p5, cap5, rfl, hc5⟩ := hk5
              obtain ⟨b2, off2, rfl, hlb2, hc5⟩ := hc5 (by simp)
              have q1 := (hc5 0 ty rfl).2.1
              have q3 := (hc5 1 tz rfl).1
              rw [hty] at q1
              rw [htz] at q3
              rw [Nat.zero_mul, Nat.add_zero] at q1
              rw [Nat.one_mul] at q3
              have y0 := cells_at HX5.out 0 _ rfl
              have y1 := cells_at HX5.out 1 _ rfl
              have y2 := cells_at HX5.out 2 _ rfl
              have y3 := cells_at HX5.out 3 _ rfl
              go_wp2_with fail
              refine (HVA.out W5 HB5.out).mono ?_
              rintro e W6 ⟨rfl, hB6⟩
              have HB6 := Lib.hid (HB5.out.trans (hB6.mono HB5.out.size))
              have HX6 := Lib.hid ((hB6.block X (Array.getElem?_eq_some_iff.1 HX5.out).1).trans HX5.out)
              clear y0 y1 y2 y3
              have q1 := (hB6.cell (p := ⟨b2, off2 + 1, none⟩) hlb2).trans q1
              have q3 := (hB6.cell (p := ⟨b2, off2 + 3, none⟩) hlb2).trans q3
              have e45 : ((⟨#[45]⟩ : ByteArray).toList == [45]) = true := by decide +kernel
              clear hB6 HB5 HX5 hc5 hst hall herr hty htz hun
              go_wp2_with fail
              go_ret
              exact ⟨rfl, HB6.out⟩
            · rw [hst]
              rw [hv] at HVA
              obtain ⟨hall, herr⟩ := lex_dec hu
              have hdn : decide ((n : Int) < 0) = false := decide_eq_false (by omega)
              go_wp2_with fail
              refine (lex_ok _ W4 (by rw [decB_size]; have := dec_len hu; omega) (HE.out.below HB4.out) herr).mono ?_
              rintro e W5 ⟨k5, rfl, hk5, hB5⟩
              have HB5 := Lib.hid (HB4.out.trans (hB5.mono HB4.out.size))
              have HX5 := Lib.hid ((hB5.block X (Array.getElem?_eq_some_iff.1 HX4.out).1).trans HX4.out)
              clear hB5 HB4 HX4
              rw [hall] at hk5
              obtain ⟨p5, cap5, rfl, hc5⟩ := hk5
              obtain ⟨b2, off2, rfl, hlb2, hc5⟩ := hc5 (by simp)
              obtain ⟨q0, q1, _⟩ := hc5 0 _ rfl
              simp only [Nat.zero_mul, Nat.add_zero] at q0 q1
              have y0 := cells_at HX5.out 0 _ rfl
              have y1 := cells_at HX5.out 1 _ rfl
              have y2 := cells_at HX5.out 2 _ rfl
              have y3 := cells_at HX5.out 3 _ rfl
              go_wp2_with fail
              refine (HVA.out W5 HB5.out).mono ?_
              rintro e W6 ⟨rfl, hB6⟩
              have HB6 := Lib.hid (HB5.out.trans (hB6.mono HB5.out.size))
              have HX6 := Lib.hid ((hB6.block X (Array.getElem?_eq_some_iff.1 HX5.out).1).trans HX5.out)
              clear y0 y1 y2 y3
              have q0 := (hB6.cell (p := ⟨b2, off2, none⟩) hlb2).trans q0
              have q1 := (hB6.cell (p := ⟨b2, off2 + 1, none⟩) hlb2).trans q1
              have hlb2 := Nat.lt_of_lt_of_le hlb2 hB6.size
              have y0 := cells_at HX6.out 0 _ rfl
              have y1 := cells_at HX6.out 1 _ rfl
              have y2 := cells_at HX6.out 2 _ rfl
              have y3 := cells_at HX6.out 3 _ rfl
              have hlx := (Array.getElem?_eq_some_iff.1 HX6.out).1
              have HS5 : Hid (∀ wx, Below W6.heap.size W6 wx → Calls Tryz.prog 12 #[.agg #[.int .u8 1, .int .i64 n, .string ⟨#[]⟩, .slice none 0 0]] wx fun e w' => e = .returned (.string (decB u)) ∧ Below wx.heap.size wx w') := Lib.hid (fun wx hwx => by
                rw [← hst]; exact HST.out wx (HB6.out.trans (hwx.mono HB6.out.size)))
              have HB4 := HB6
              have nd : ((decB u).toList == (decB u).toList) = true := by simp
              clear hB6 HB5 HX5 HB6 HX6 hc5 hall herr hst hun HST HVA HCS
              go_wp2_with fail
              refine wp_region_grow_tail (by kernel_rfl) 23 (FQ [ .val (.int .i64 0), .val (.bool true), .val (.bool true), .val (.slice (some ⟨b2, off2, none⟩) 1 cap5), .val (.int .i64 1), .val (.bool true), .val (.bool true), .val (.bool true), .val (.slice (some ⟨b2, off2, none⟩) 1 cap5), .val (.pointer (some ⟨b2, off2, none⟩)), .val (.pointer (some ⟨b2, off2, none⟩)), .val (.int .u8 3), .val (.bool true), .val (.bool true), .val (.bool true), .val (.slice (some ⟨b2, off2, none⟩) 1 cap5), .val (.pointer (some ⟨b2, off2, none⟩)), .val (.pointer (some ⟨b2, off2 + 1, none⟩)), .val (.string (decB u)), .val (.agg #[.int .u8 1, .int .i64 n, .string ⟨#[]⟩, .slice none 0 0]), .val (.string (decB u)), .val (.bool true), .val (.bool true)]) (FQ_grow _) (by kernel_rfl) (by kernel_rfl) (steps_to ?_) ?_
              · simp only [List.take_succ_cons, List.take_zero]
                refine ⟨?_, ?_, ?_, ?_, ?_, ?_, ?_, ?_, ?_, ?_, ?_, ?_, ?_, ?_, ?_, ?_, ?_, ?_, ?_, ?_, ?_, ?_, ?_, trivial⟩
                · intro a wx hb hd hs ho hp
                  refine ⟨rfl, ?_⟩
                  have h12 : a.tmps.getD 12 undef = _ := (ho 12 (by kernel_rfl)).trans rfl
                  unfold Oper.wp
                  go_simp
                  exact Stepped.at rfl hd (Below.refl _ _) (FQ_mk (.val (.int .i64 0)) rfl (by first | rfl | simp))
                · intro a wx hb hd hs ho hp
                  refine ⟨rfl, ?_⟩
                  have h118 : a.tmps.getD 118 undef = .int .i64 0 := qval_at hp 0 118 (by kernel_rfl) rfl
                  unfold Oper.wp
                  go_simp
                  exact Stepped.at rfl hd (Below.refl _ _) (FQ_mk (.val (.bool true)) rfl (by first | rfl | simp))
                · intro a wx hb hd hs ho hp
                  refine ⟨rfl, ?_⟩
                  have h119 : a.tmps.getD 119 undef = .bool true := qval_at hp 1 119 (by kernel_rfl) rfl
                  unfold Oper.wp
                  go_simp
                  exact Stepped.at rfl hd (Below.refl _ _) (FQ_mk (.val (.bool true)) rfl (by first | rfl | simp))
                · intro a wx hb hd hs ho hp
                  refine ⟨wanted_true rfl (yielded_at (k := 2) (d := 120) (by kernel_rfl) (qval_at hp 2 120 (by kernel_rfl) rfl)), ?_⟩
                  have h10 : a.tmps.getD 10 undef = _ := (ho 10 (by kernel_rfl)).trans rfl
                  unfold Oper.wp
                  go_simp
                  exact Stepped.at rfl hd (Below.refl _ _) (FQ_mk (.val (.slice (some ⟨b2, off2, none⟩) 1 cap5)) rfl (by first | rfl | simp))
                · intro a wx hb hd hs ho hp
                  refine ⟨wanted_true rfl (yielded_at (k := 2) (d := 120) (by kernel_rfl) (qval_at hp 2 120 (by kernel_rfl) rfl)), ?_⟩
                  have h121 : a.tmps.getD 121 undef = .slice (some ⟨b2, off2, none⟩) 1 cap5 := qval_at hp 3 121 (by kernel_rfl) rfl
                  unfold Oper.wp
                  go_simp
                  exact Stepped.at rfl hd (Below.refl _ _) (FQ_mk (.val (.int .i64 1)) rfl (by first | rfl | simp))
                · intro a wx hb hd hs ho hp
                  refine ⟨wanted_true rfl (yielded_at (k := 2) (d := 120) (by kernel_rfl) (qval_at hp 2 120 (by kernel_rfl) rfl)), ?_⟩
                  have h122 : a.tmps.getD 122 undef = .int .i64 1 := qval_at hp 4 122 (by kernel_rfl) rfl
                  unfold Oper.wp
                  go_simp
                  exact Stepped.at rfl hd (Below.refl _ _) (FQ_mk (.val (.bool true)) rfl (by first | rfl | simp))
                · intro a wx hb hd hs ho hp
                  refine ⟨rfl, ?_⟩
                  have h120 : a.tmps.getD 120 undef = .bool true := qval_at hp 2 120 (by kernel_rfl) rfl
                  have h123 : a.tmps.getD 123 undef = .bool true := qval_at hp 5 123 (by kernel_rfl) rfl
                  unfold Oper.wp
                  go_simp
                  exact Stepped.at rfl hd (Below.refl _ _) (FQ_mk (.val (.bool true)) rfl (by first | rfl | simp))
                · intro a wx hb hd hs ho hp
                  refine ⟨rfl, ?_⟩
                  have h124 : a.tmps.getD 124 undef = .bool true := qval_at hp 6 124 (by kernel_rfl) rfl
                  unfold Oper.wp
                  go_simp
                  exact Stepped.at rfl hd (Below.refl _ _) (FQ_mk (.val (.bool true)) rfl (by first | rfl | simp))
                · intro a wx hb hd hs ho hp
                  refine ⟨wanted_true rfl (yielded_at (k := 7) (d := 125) (by kernel_rfl) (qval_at hp 7 125 (by kernel_rfl) rfl)), ?_⟩
                  have h10 : a.tmps.getD 10 undef = _ := (ho 10 (by kernel_rfl)).trans rfl
                  unfold Oper.wp
                  go_simp
                  exact Stepped.at rfl hd (Below.refl _ _) (FQ_mk (.val (.slice (some ⟨b2, off2, none⟩) 1 cap5)) rfl (by first | rfl | simp))
                · intro a wx hb hd hs ho hp
                  refine ⟨wanted_true rfl (yielded_at (k := 7) (d := 125) (by kernel_rfl) (qval_at hp 7 125 (by kernel_rfl) rfl)), ?_⟩
                  have h126 : a.tmps.getD 126 undef = .slice (some ⟨b2, off2, none⟩) 1 cap5 := qval_at hp 8 126 (by kernel_rfl) rfl
                  unfold Oper.wp
                  go_simp
                  exact Stepped.at rfl hd (Below.refl _ _) (FQ_mk (.val (.pointer (some ⟨b2, off2, none⟩))) rfl (by first | rfl | simp))
                · intro a wx hb hd hs ho hp
                  refine ⟨wanted_true rfl (yielded_at (k := 7) (d := 125) (by kernel_rfl) (qval_at hp 7 125 (by kernel_rfl) rfl)), ?_⟩
                  have h127 : a.tmps.getD 127 undef = .pointer (some ⟨b2, off2, none⟩) := qval_at hp 9 127 (by kernel_rfl) rfl
                  unfold Oper.wp
                  go_simp
                  exact Stepped.at rfl hd (Below.refl _ _) (FQ_mk (.val (.pointer (some ⟨b2, off2, none⟩))) rfl (by first | rfl | simp))
                · intro a wx hb hd hs ho hp
                  refine ⟨wanted_true rfl (yielded_at (k := 7) (d := 125) (by kernel_rfl) (qval_at hp 7 125 (by kernel_rfl) rfl)), ?_⟩
                  have h128 : a.tmps.getD 128 undef = .pointer (some ⟨b2, off2, none⟩) := qval_at hp 10 128 (by kernel_rfl) rfl
                  have x0 := (hb.cell (p := ⟨b2, off2, none⟩) hlb2).trans q0
                  unfold Oper.wp
                  go_simp
                  exact Stepped.at rfl hd (Below.refl _ _) (FQ_mk (.val (.int .u8 3)) rfl rfl)
                · intro a wx hb hd hs ho hp
                  refine ⟨wanted_true rfl (yielded_at (k := 7) (d := 125) (by kernel_rfl) (qval_at hp 7 125 (by kernel_rfl) rfl)), ?_⟩
                  have h129 : a.tmps.getD 129 undef = .int .u8 3 := qval_at hp 11 129 (by kernel_rfl) rfl
                  unfold Oper.wp
                  go_simp
                  exact Stepped.at rfl hd (Below.refl _ _) (FQ_mk (.val (.bool true)) rfl (by first | rfl | simp))
                · intro a wx hb hd hs ho hp
                  refine ⟨rfl, ?_⟩
                  have h125 : a.tmps.getD 125 undef = .bool true := qval_at hp 7 125 (by kernel_rfl) rfl
                  have h130 : a.tmps.getD 130 undef = .bool true := qval_at hp 12 130 (by kernel_rfl) rfl
                  unfold Oper.wp
                  go_simp
                  exact Stepped.at rfl hd (Below.refl _ _) (FQ_mk (.val (.bool true)) rfl (by first | rfl | simp))
                · intro a wx hb hd hs ho hp
                  refine ⟨rfl, ?_⟩
                  have h131 : a.tmps.getD 131 undef = .bool true := qval_at hp 13 131 (by kernel_rfl) rfl
                  unfold Oper.wp
                  go_simp
                  exact Stepped.at rfl hd (Below.refl _ _) (FQ_mk (.val (.bool true)) rfl (by first | rfl | simp))
                · intro a wx hb hd hs ho hp
                  refine ⟨wanted_true rfl (yielded_at (k := 14) (d := 132) (by kernel_rfl) (qval_at hp 14 132 (by kernel_rfl) rfl)), ?_⟩
                  have h10 : a.tmps.getD 10 undef = _ := (ho 10 (by kernel_rfl)).trans rfl
                  unfold Oper.wp
                  go_simp
                  exact Stepped.at rfl hd (Below.refl _ _) (FQ_mk (.val (.slice (some ⟨b2, off2, none⟩) 1 cap5)) rfl (by first | rfl | simp))
                · intro a wx hb hd hs ho hp
                  refine ⟨wanted_true rfl (yielded_at (k := 14) (d := 132) (by kernel_rfl) (qval_at hp 14 132 (by kernel_rfl) rfl)), ?_⟩
                  have h133 : a.tmps.getD 133 undef = .slice (some ⟨b2, off2, none⟩) 1 cap5 := qval_at hp 15 133 (by kernel_rfl) rfl
                  unfold Oper.wp
                  go_simp
                  exact Stepped.at rfl hd (Below.refl _ _) (FQ_mk (.val (.pointer (some ⟨b2, off2, none⟩))) rfl (by first | rfl | simp))
                · intro a wx hb hd hs ho hp
                  refine ⟨wanted_true rfl (yielded_at (k := 14) (d := 132) (by kernel_rfl) (qval_at hp 14 132 (by kernel_rfl) rfl)), ?_⟩
                  have h134 : a.tmps.getD 134 undef = .pointer (some ⟨b2, off2, none⟩) := qval_at hp 16 134 (by kernel_rfl) rfl
                  unfold Oper.wp
                  go_simp
                  exact Stepped.at rfl hd (Below.refl _ _) (FQ_mk (.val (.pointer (some ⟨b2, off2 + 1, none⟩))) rfl (by first | rfl | simp))
                · intro a wx hb hd hs ho hp
                  refine ⟨wanted_true rfl (yielded_at (k := 14) (d := 132) (by kernel_rfl) (qval_at hp 14 132 (by kernel_rfl) rfl)), ?_⟩
                  have h135 : a.tmps.getD 135 undef = .pointer (some ⟨b2, off2 + 1, none⟩) := qval_at hp 17 135 (by kernel_rfl) rfl
                  have x0 := (hb.cell (p := ⟨b2, off2 + 1, none⟩) hlb2).trans q1
                  unfold Oper.wp
                  go_simp
                  exact Stepped.at rfl hd (Below.refl _ _) (FQ_mk (.val (.string (decB u))) rfl rfl)
                · intro a wx hb hd hs ho hp
                  refine ⟨wanted_true rfl (yielded_at (k := 14) (d := 132) (by kernel_rfl) (qval_at hp 14 132 (by kernel_rfl) rfl)), ?_⟩
                  have h9 : a.tmps.getD 9 undef = _ := (ho 9 (by kernel_rfl)).trans rfl
                  have x0 := (hb.cell (p := ⟨X, 0, none⟩) hlx).trans y0
                  have x1 := (hb.cell (p := ⟨X, 1, none⟩) hlx).trans y1
                  have x2 := (hb.cell (p := ⟨X, 2, none⟩) hlx).trans y2
                  have x3 := (hb.cell (p := ⟨X, 3, none⟩) hlx).trans y3
                  unfold Oper.wp
                  go_simp
                  exact Stepped.at rfl hd (Below.refl _ _) (FQ_mk (.val (.agg #[.int .u8 1, .int .i64 n, .string ⟨#[]⟩, .slice none 0 0])) rfl rfl)
                · intro a wx hb hd hs ho hp
                  refine ⟨wanted_true rfl (yielded_at (k := 14) (d := 132) (by kernel_rfl) (qval_at hp 14 132 (by kernel_rfl) rfl)), ?_⟩
                  have h137 : a.tmps.getD 137 undef = .agg #[.int .u8 1, .int .i64 n, .string ⟨#[]⟩, .slice none 0 0] := qval_at hp 19 137 (by kernel_rfl) rfl
                  unfold Oper.wp
                  go_simp
                  refine ((HS5.out wx hb)).mono ?_
                  rintro e w2 ⟨rfl, hb2⟩
                  exact Stepped.at rfl hd hb2 (FQ_mk (.val (.string (decB u))) rfl rfl)
                · intro a wx hb hd hs ho hp
                  refine ⟨wanted_true rfl (yielded_at (k := 14) (d := 132) (by kernel_rfl) (qval_at hp 14 132 (by kernel_rfl) rfl)), ?_⟩
                  have h136 : a.tmps.getD 136 undef = .string (decB u) := qval_at hp 18 136 (by kernel_rfl) rfl
                  have h138 : a.tmps.getD 138 undef = .string (decB u) := qval_at hp 20 138 (by kernel_rfl) rfl
                  unfold Oper.wp
                  go_simp
                  exact Stepped.at rfl hd (Below.refl _ _) (FQ_mk (.val (.bool true)) rfl (by first | rfl | simp))
                · intro a wx hb hd hs ho hp
                  refine ⟨rfl, ?_⟩
                  have h132 : a.tmps.getD 132 undef = .bool true := qval_at hp 14 132 (by kernel_rfl) rfl
                  have h139 : a.tmps.getD 139 undef = .bool true := qval_at hp 21 139 (by kernel_rfl) rfl
                  unfold Oper.wp
                  go_simp
                  exact Stepped.at rfl hd (Below.refl _ _) (FQ_mk (.val (.bool true)) rfl (by first | rfl | simp))
              intro a7 w7 hb7 hd7 hs7 ho7 hf7
              have k118 : a7.tmps.getD 118 undef = .int .i64 0 := FQ_at (.val (.int .i64 0)) rfl (facts_to hf7 0 118 (by decide) (by kernel_rfl))
              have k119 : a7.tmps.getD 119 undef = .bool true := FQ_at (.val (.bool true)) rfl (facts_to hf7 1 119 (by decide) (by kernel_rfl))
              have k120 : a7.tmps.getD 120 undef = .bool true := FQ_at (.val (.bool true)) rfl (facts_to hf7 2 120 (by decide) (by kernel_rfl))
              have k121 : a7.tmps.getD 121 undef = .slice (some ⟨b2, off2, none⟩) 1 cap5 := FQ_at (.val (.slice (some ⟨b2, off2, none⟩) 1 cap5)) rfl (facts_to hf7 3 121 (by decide) (by kernel_rfl))
              have k122 : a7.tmps.getD 122 undef = .int .i64 1 := FQ_at (.val (.int .i64 1)) rfl (facts_to hf7 4 122 (by decide) (by kernel_rfl))
              have k123 : a7.tmps.getD 123 undef = .bool true := FQ_at (.val (.bool true)) rfl (facts_to hf7 5 123 (by decide) (by kernel_rfl))
              have k124 : a7.tmps.getD 124 undef = .bool true := FQ_at (.val (.bool true)) rfl (facts_to hf7 6 124 (by decide) (by kernel_rfl))
              have k125 : a7.tmps.getD 125 undef = .bool true := FQ_at (.val (.bool true)) rfl (facts_to hf7 7 125 (by decide) (by kernel_rfl))
              have k126 : a7.tmps.getD 126 undef = .slice (some ⟨b2, off2, none⟩) 1 cap5 := FQ_at (.val (.slice (some ⟨b2, off2, none⟩) 1 cap5)) rfl (facts_to hf7 8 126 (by decide) (by kernel_rfl))
              have k127 : a7.tmps.getD 127 undef = .pointer (some ⟨b2, off2, none⟩) := FQ_at (.val (.pointer (some ⟨b2, off2, none⟩))) rfl (facts_to hf7 9 127 (by decide) (by kernel_rfl))
              have k128 : a7.tmps.getD 128 undef = .pointer (some ⟨b2, off2, none⟩) := FQ_at (.val (.pointer (some ⟨b2, off2, none⟩))) rfl (facts_to hf7 10 128 (by decide) (by kernel_rfl))
              have k129 : a7.tmps.getD 129 undef = .int .u8 3 := FQ_at (.val (.int .u8 3)) rfl (facts_to hf7 11 129 (by decide) (by kernel_rfl))
              have k130 : a7.tmps.getD 130 undef = .bool true := FQ_at (.val (.bool true)) rfl (facts_to hf7 12 130 (by decide) (by kernel_rfl))
              have k131 : a7.tmps.getD 131 undef = .bool true := FQ_at (.val (.bool true)) rfl (facts_to hf7 13 131 (by decide) (by kernel_rfl))
              have k132 : a7.tmps.getD 132 undef = .bool true := FQ_at (.val (.bool true)) rfl (facts_to hf7 14 132 (by decide) (by kernel_rfl))
              have k133 : a7.tmps.getD 133 undef = .slice (some ⟨b2, off2, none⟩) 1 cap5 := FQ_at (.val (.slice (some ⟨b2, off2, none⟩) 1 cap5)) rfl (facts_to hf7 15 133 (by decide) (by kernel_rfl))
              have k134 : a7.tmps.getD 134 undef = .pointer (some ⟨b2, off2, none⟩) := FQ_at (.val (.pointer (some ⟨b2, off2, none⟩))) rfl (facts_to hf7 16 134 (by decide) (by kernel_rfl))
              have k135 : a7.tmps.getD 135 undef = .pointer (some ⟨b2, off2 + 1, none⟩) := FQ_at (.val (.pointer (some ⟨b2, off2 + 1, none⟩))) rfl (facts_to hf7 17 135 (by decide) (by kernel_rfl))
              have k136 : a7.tmps.getD 136 undef = .string (decB u) := FQ_at (.val (.string (decB u))) rfl (facts_to hf7 18 136 (by decide) (by kernel_rfl))
              have k137 : a7.tmps.getD 137 undef = .agg #[.int .u8 1, .int .i64 n, .string ⟨#[]⟩, .slice none 0 0] := FQ_at (.val (.agg #[.int .u8 1, .int .i64 n, .string ⟨#[]⟩, .slice none 0 0])) rfl (facts_to hf7 19 137 (by decide) (by kernel_rfl))
              have k138 : a7.tmps.getD 138 undef = .string (decB u) := FQ_at (.val (.string (decB u))) rfl (facts_to hf7 20 138 (by decide) (by kernel_rfl))
              have k139 : a7.tmps.getD 139 undef = .bool true := FQ_at (.val (.bool true)) rfl (facts_to hf7 21 139 (by decide) (by kernel_rfl))
              have k140 : a7.tmps.getD 140 undef = .bool true := FQ_at (.val (.bool true)) rfl (facts_to hf7 22 140 (by decide) (by kernel_rfl))
              have hE7 := slots_all a7.tmps 141 (hs7.trans rfl)
              simp only [List.range, List.range.loop, List.map, k118, k119, k120, k121, k122, k123, k124, k125, k126, k127, k128, k129, k130, k131, k132, k133, k134, k135, k136, k137, k138, k139, k140, ho7 0 (by kernel_rfl), ho7 1 (by kernel_rfl), ho7 2 (by kernel_rfl), ho7 3 (by kernel_rfl), ho7 4 (by kernel_rfl), ho7 5 (by kernel_rfl), ho7 6 (by kernel_rfl), ho7 7 (by kernel_rfl), ho7 8 (by kernel_rfl), ho7 9 (by kernel_rfl), ho7 10 (by kernel_rfl), ho7 11 (by kernel_rfl), ho7 12 (by kernel_rfl), ho7 13 (by kernel_rfl), ho7 14 (by kernel_rfl), ho7 15 (by kernel_rfl), ho7 16 (by kernel_rfl), ho7 17 (by kernel_rfl), ho7 18 (by kernel_rfl), ho7 19 (by kernel_rfl), ho7 20 (by kernel_rfl), ho7 21 (by kernel_rfl), ho7 22 (by kernel_rfl), ho7 23 (by kernel_rfl), ho7 24 (by kernel_rfl), ho7 25 (by kernel_rfl), ho7 26 (by kernel_rfl), ho7 27 (by kernel_rfl), ho7 28 (by kernel_rfl), ho7 29 (by kernel_rfl), ho7 30 (by kernel_rfl), ho7 31 (by kernel_rfl), ho7 32 (by kernel_rfl), ho7 33 (by kernel_rfl), ho7 34 (by kernel_rfl), ho7 35 (by kernel_rfl), ho7 36 (by kernel_rfl), ho7 37 (by kernel_rfl), ho7 38 (by kernel_rfl), ho7 39 (by kernel_rfl), ho7 40 (by kernel_rfl), ho7 41 (by kernel_rfl), ho7 42 (by kernel_rfl), ho7 43 (by kernel_rfl), ho7 44 (by kernel_rfl), ho7 45 (by kernel_rfl), ho7 46 (by kernel_rfl), ho7 47 (by kernel_rfl), ho7 48 (by kernel_rfl), ho7 49 (by kernel_rfl), ho7 50 (by kernel_rfl), ho7 51 (by kernel_rfl), ho7 52 (by kernel_rfl), ho7 53 (by kernel_rfl), ho7 54 (by kernel_rfl), ho7 55 (by kernel_rfl), ho7 56 (by kernel_rfl), ho7 57 (by kernel_rfl), ho7 58 (by kernel_rfl), ho7 59 (by kernel_rfl), ho7 60 (by kernel_rfl), ho7 61 (by kernel_rfl), ho7 62 (by kernel_rfl), ho7 63 (by kernel_rfl), ho7 64 (by kernel_rfl), ho7 65 (by kernel_rfl), ho7 66 (by kernel_rfl), ho7 67 (by kernel_rfl), ho7 68 (by kernel_rfl), ho7 69 (by kernel_rfl), ho7 70 (by kernel_rfl), ho7 71 (by kernel_rfl), ho7 72 (by kernel_rfl), ho7 73 (by kernel_rfl), ho7 74 (by kernel_rfl), ho7 75 (by kernel_rfl), ho7 76 (by kernel_rfl), ho7 77 (by kernel_rfl), ho7 78 (by kernel_rfl), ho7 79 (by kernel_rfl), ho7 80 (by kernel_rfl), ho7 81 (by kernel_rfl), ho7 82 (by kernel_rfl), ho7 83 (by kernel_rfl), ho7 84 (by kernel_rfl), ho7 85 (by kernel_rfl), ho7 86 (by kernel_rfl), ho7 87 (by kernel_rfl), ho7 88 (by kernel_rfl), ho7 89 (by kernel_rfl), ho7 90 (by kernel_rfl), ho7 91 (by kernel_rfl), ho7 92 (by kernel_rfl), ho7 93 (by kernel_rfl), ho7 94 (by kernel_rfl), ho7 95 (by kernel_rfl), ho7 96 (by kernel_rfl), ho7 97 (by kernel_rfl), ho7 98 (by kernel_rfl), ho7 99 (by kernel_rfl), ho7 100 (by kernel_rfl), ho7 101 (by kernel_rfl), ho7 102 (by kernel_rfl), ho7 103 (by kernel_rfl), ho7 104 (by kernel_rfl), ho7 105 (by kernel_rfl), ho7 106 (by kernel_rfl), ho7 107 (by kernel_rfl), ho7 108 (by kernel_rfl), ho7 109 (by kernel_rfl), ho7 110 (by kernel_rfl), ho7 111 (by kernel_rfl), ho7 112 (by kernel_rfl), ho7 113 (by kernel_rfl), ho7 114 (by kernel_rfl), ho7 115 (by kernel_rfl), ho7 116 (by kernel_rfl), ho7 117 (by kernel_rfl)] at hE7
              obtain ⟨T7, D7⟩ := a7
              simp only at hE7 hd7
              subst hd7 hE7
              have HB7 := Lib.hid (HB4.out.trans (hb7.mono HB4.out.size))
              clear k118 k119 k120 k121 k122 k123 k124 k125 k126 k127 k128 k129 k130 k131 k132 k133 k134 k135 k136 k137 k138 k139 k140 hf7 hs7 ho7 hb7
              simp only [List.drop_succ_cons, List.drop_zero]
              go_wp2_with fail
              go_ret
              exact ⟨rfl, HB7.out⟩
      · have e1 : (((lexAll s).length : Int) == 1) = false := by rw [beq_eq_false_iff_ne]; omega
        generalize (lexAll s).length = ll at e1
        clear hc1 hone hNW hx
        as_aux_lemma =>
          go_wp2_with (first | (go_at_call 10; refine (HSY.out _).mono ?_; rintro e w2 ⟨rfl, rfl⟩) | (go_at_call 11; refine (HVR.out _).mono ?_; rintro e w2 ⟨rfl, rfl⟩))
          obtain ⟨X, hX⟩ : ∃ X, W2.heap.size = X := ⟨_, rfl⟩
          obtain ⟨W3, hW3⟩ : ∃ W3, W2.alloc (.cells #[.int .u8 1, .int .i64 n, .string ⟨#[]⟩, .slice none 0 0] 36) = W3 := ⟨_, rfl⟩
          have hx3 : W3.heap[X]? = some (.cells #[.int .u8 1, .int .i64 n, .string ⟨#[]⟩, .slice none 0 0] 36 (0, 0)) := by rw [← hW3, ← hX]; exact World.alloc_heap_new _ _
          have hB3 : Below w.heap.size w W3 := by rw [← hW3]; exact HB2.out.alloc HB2.out.size _
          have hXw : w.heap.size ≤ X := by rw [← hX]; exact HB2.out.size
          have y0 := cells_at hx3 0 _ rfl
          have y1 := cells_at hx3 1 _ rfl
          have y2 := cells_at hx3 2 _ rfl
          have y3 := cells_at hx3 3 _ rfl
          have HX3 := Lib.hid hx3
          have HB3 := Lib.hid hB3
          clear hx3 hB3
          first | rw [hW3] | skip
          go_wp2_with fail
          first | rw [hW3] | skip
          refine (HST.out W3 HB3.out).mono ?_
          rintro e W4 ⟨rfl, hB4⟩
          have HB4 := Lib.hid (HB3.out.trans (hB4.mono HB3.out.size))
          have HX4 := Lib.hid ((hB4.block X (Array.getElem?_eq_some_iff.1 HX3.out).1).trans HX3.out)
          clear hB4 y0 y1 y2 y3 HB3 HX3
          clear hW3
          rcases HCS.out with ⟨hv, hst⟩ | ⟨hv, hun, hn0, u, hu, hst⟩ | ⟨hv, hun, hn0, u, hu, hst⟩
          · rw [hst]
            rw [hv] at HVA
            go_wp2_with fail
            refine (lex_ok _ W4 (by decide) (HE.out.below HB4.out) empty_err).mono ?_
            rintro e W5 ⟨k5, rfl, hk5, hB5⟩
            have HB5 := Lib.hid (HB4.out.trans (hB5.mono HB4.out.size))
            have HX5 := Lib.hid ((hB5.block X (Array.getElem?_eq_some_iff.1 HX4.out).1).trans HX4.out)
            clear hB5 HB4 HX4
            rw [empty_all] at hk5
            obtain ⟨p5, cap5, rfl, _⟩ := hk5
            have y0 := cells_at HX5.out 0 _ rfl
            have y1 := cells_at HX5.out 1 _ rfl
            have y2 := cells_at HX5.out 2 _ rfl
            have y3 := cells_at HX5.out 3 _ rfl
            go_wp2_with fail
            refine (HVA.out W5 HB5.out).mono ?_
            rintro e W6 ⟨rfl, hB6⟩
            have HB6 := Lib.hid (HB5.out.trans (hB6.mono HB5.out.size))
            have HX6 := Lib.hid ((hB6.block X (Array.getElem?_eq_some_iff.1 HX5.out).1).trans HX5.out)
            clear y0 y1 y2 y3
            clear hB6 HB5 HX5
            go_wp2_with fail
            go_ret
            exact ⟨rfl, HB6.out⟩
          · rw [hst]
            rw [hv] at HVA
            obtain ⟨ty, tz, hall, herr, hty, htz⟩ := lex_neg hu
            have hdn : decide ((n : Int) < 0) = true := decide_eq_true hn0
            go_wp2_with fail
            refine (lex_ok _ W4 (by rw [negB_size]; have := dec_len hu; omega) (HE.out.below HB4.out) herr).mono ?_
            rintro e W5 ⟨k5, rfl, hk5, hB5⟩
            have HB5 := Lib.hid (HB4.out.trans (hB5.mono HB4.out.size))
            have HX5 := Lib.hid ((hB5.block X (Array.getElem?_eq_some_iff.1 HX4.out).1).trans HX4.out)
            clear hB5 HB4 HX4
            rw [hall] at hk5
            obtain ⟨p5, cap5, rfl, hc5⟩ := hk5
            obtain ⟨b2, off2, rfl, hlb2, hc5⟩ := hc5 (by simp)
            have q1 := (hc5 0 ty rfl).2.1
            have q3 := (hc5 1 tz rfl).1
            rw [hty] at q1
            rw [htz] at q3
            rw [Nat.zero_mul, Nat.add_zero] at q1
            rw [Nat.one_mul] at q3
            have y0 := cells_at HX5.out 0 _ rfl
            have y1 := cells_at HX5.out 1 _ rfl
            have y2 := cells_at HX5.out 2 _ rfl
            have y3 := cells_at HX5.out 3 _ rfl
            go_wp2_with fail
            refine (HVA.out W5 HB5.out).mono ?_
            rintro e W6 ⟨rfl, hB6⟩
            have HB6 := Lib.hid (HB5.out.trans (hB6.mono HB5.out.size))
            have HX6 := Lib.hid ((hB6.block X (Array.getElem?_eq_some_iff.1 HX5.out).1).trans HX5.out)
            clear y0 y1 y2 y3
            have q1 := (hB6.cell (p := ⟨b2, off2 + 1, none⟩) hlb2).trans q1
            have q3 := (hB6.cell (p := ⟨b2, off2 + 3, none⟩) hlb2).trans q3
            have e45 : ((⟨#[45]⟩ : ByteArray).toList == [45]) = true := by decide +kernel
            clear hB6 HB5 HX5 hc5 hst hall herr hty htz hun
            go_wp2_with fail
            go_ret
            exact ⟨rfl, HB6.out⟩
          · rw [hst]
            rw [hv] at HVA
            obtain ⟨hall, herr⟩ := lex_dec hu
            have hdn : decide ((n : Int) < 0) = false := decide_eq_false (by omega)
            go_wp2_with fail
            refine (lex_ok _ W4 (by rw [decB_size]; have := dec_len hu; omega) (HE.out.below HB4.out) herr).mono ?_
            rintro e W5 ⟨k5, rfl, hk5, hB5⟩
            have HB5 := Lib.hid (HB4.out.trans (hB5.mono HB4.out.size))
            have HX5 := Lib.hid ((hB5.block X (Array.getElem?_eq_some_iff.1 HX4.out).1).trans HX4.out)
            clear hB5 HB4 HX4
            rw [hall] at hk5
            obtain ⟨p5, cap5, rfl, hc5⟩ := hk5
            obtain ⟨b2, off2, rfl, hlb2, hc5⟩ := hc5 (by simp)
            obtain ⟨q0, q1, _⟩ := hc5 0 _ rfl
            simp only [Nat.zero_mul, Nat.add_zero] at q0 q1
            have y0 := cells_at HX5.out 0 _ rfl
            have y1 := cells_at HX5.out 1 _ rfl
            have y2 := cells_at HX5.out 2 _ rfl
            have y3 := cells_at HX5.out 3 _ rfl
            go_wp2_with fail
            refine (HVA.out W5 HB5.out).mono ?_
            rintro e W6 ⟨rfl, hB6⟩
            have HB6 := Lib.hid (HB5.out.trans (hB6.mono HB5.out.size))
            have HX6 := Lib.hid ((hB6.block X (Array.getElem?_eq_some_iff.1 HX5.out).1).trans HX5.out)
            clear y0 y1 y2 y3
            have q0 := (hB6.cell (p := ⟨b2, off2, none⟩) hlb2).trans q0
            have q1 := (hB6.cell (p := ⟨b2, off2 + 1, none⟩) hlb2).trans q1
            have hlb2 := Nat.lt_of_lt_of_le hlb2 hB6.size
            have y0 := cells_at HX6.out 0 _ rfl
            have y1 := cells_at HX6.out 1 _ rfl
            have y2 := cells_at HX6.out 2 _ rfl
            have y3 := cells_at HX6.out 3 _ rfl
            have hlx := (Array.getElem?_eq_some_iff.1 HX6.out).1
            have HS5 : Hid (∀ wx, Below W6.heap.size W6 wx → Calls Tryz.prog 12 #[.agg #[.int .u8 1, .int .i64 n, .string ⟨#[]⟩, .slice none 0 0]] wx fun e w' => e = .returned (.string (decB u)) ∧ Below wx.heap.size wx w') := Lib.hid (fun wx hwx => by
              rw [← hst]; exact HST.out wx (HB6.out.trans (hwx.mono HB6.out.size)))
            have HB4 := HB6
            have nd : ((decB u).toList == (decB u).toList) = true := by simp
            clear hB6 HB5 HX5 HB6 HX6 hc5 hall herr hst hun HST HVA HCS
            go_wp2_with fail
            refine wp_region_grow_tail (by kernel_rfl) 23 (FQ [ .val (.int .i64 0), .val (.bool true), .val (.bool true), .val (.slice (some ⟨b2, off2, none⟩) 1 cap5), .val (.int .i64 1), .val (.bool true), .val (.bool true), .val (.bool true), .val (.slice (some ⟨b2, off2, none⟩) 1 cap5), .val (.pointer (some ⟨b2, off2, none⟩)), .val (.pointer (some ⟨b2, off2, none⟩)), .val (.int .u8 3), .val (.bool true), .val (.bool true), .val (.bool true), .val (.slice (some ⟨b2, off2, none⟩) 1 cap5), .val (.pointer (some ⟨b2, off2, none⟩)), .val (.pointer (some ⟨b2, off2 + 1, none⟩)), .val (.string (decB u)), .val (.agg #[.int .u8 1, .int .i64 n, .string ⟨#[]⟩, .slice none 0 0]), .val (.string (decB u)), .val (.bool true), .val (.bool true)]) (FQ_grow _) (by kernel_rfl) (by kernel_rfl) (steps_to ?_) ?_
            · simp only [List.take_succ_cons, List.take_zero]
              refine ⟨?_, ?_, ?_, ?_, ?_, ?_, ?_, ?_, ?_, ?_, ?_, ?_, ?_, ?_, ?_, ?_, ?_, ?_, ?_, ?_, ?_, ?_, ?_, trivial⟩
              · intro a wx hb hd hs ho hp
                refine ⟨rfl, ?_⟩
                have h12 : a.tmps.getD 12 undef = _ := (ho 12 (by kernel_rfl)).trans rfl
                unfold Oper.wp
                go_simp
                exact Stepped.at rfl hd (Below.refl _ _) (FQ_mk (.val (.int .i64 0)) rfl (by first | rfl | simp))
              · intro a wx hb hd hs ho hp
                refine ⟨rfl, ?_⟩
                have h118 : a.tmps.getD 118 undef = .int .i64 0 := qval_at hp 0 118 (by kernel_rfl) rfl
                unfold Oper.wp
                go_simp
                exact Stepped.at rfl hd (Below.refl _ _) (FQ_mk (.val (.bool true)) rfl (by first | rfl | simp))
              · intro a wx hb hd hs ho hp
                refine ⟨rfl, ?_⟩
                have h119 : a.tmps.getD 119 undef = .bool true := qval_at hp 1 119 (by kernel_rfl) rfl
                unfold Oper.wp
                go_simp
                exact Stepped.at rfl hd (Below.refl _ _) (FQ_mk (.val (.bool true)) rfl (by first | rfl | simp))
              · intro a wx hb hd hs ho hp
                refine ⟨wanted_true rfl (yielded_at (k := 2) (d := 120) (by kernel_rfl) (qval_at hp 2 120 (by kernel_rfl) rfl)), ?_⟩
                have h10 : a.tmps.getD 10 undef = _ := (ho 10 (by kernel_rfl)).trans rfl
                unfold Oper.wp
                go_simp
                exact Stepped.at rfl hd (Below.refl _ _) (FQ_mk (.val (.slice (some ⟨b2, off2, none⟩) 1 cap5)) rfl (by first | rfl | simp))
              · intro a wx hb hd hs ho hp
                refine ⟨wanted_true rfl (yielded_at (k := 2) (d := 120) (by kernel_rfl) (qval_at hp 2 120 (by kernel_rfl) rfl)), ?_⟩
                have h121 : a.tmps.getD 121 undef = .slice (some ⟨b2, off2, none⟩) 1 cap5 := qval_at hp 3 121 (by kernel_rfl) rfl
                unfold Oper.wp
                go_simp
                exact Stepped.at rfl hd (Below.refl _ _) (FQ_mk (.val (.int .i64 1)) rfl (by first | rfl | simp))
              · intro a wx hb hd hs ho hp
                refine ⟨wanted_true rfl (yielded_at (k := 2) (d := 120) (by kernel_rfl) (qval_at hp 2 120 (by kernel_rfl) rfl)), ?_⟩
                have h122 : a.tmps.getD 122 undef = .int .i64 1 := qval_at hp 4 122 (by kernel_rfl) rfl
                unfold Oper.wp
                go_simp
                exact Stepped.at rfl hd (Below.refl _ _) (FQ_mk (.val (.bool true)) rfl (by first | rfl | simp))
              · intro a wx hb hd hs ho hp
                refine ⟨rfl, ?_⟩
                have h120 : a.tmps.getD 120 undef = .bool true := qval_at hp 2 120 (by kernel_rfl) rfl
                have h123 : a.tmps.getD 123 undef = .bool true := qval_at hp 5 123 (by kernel_rfl) rfl
                unfold Oper.wp
                go_simp
                exact Stepped.at rfl hd (Below.refl _ _) (FQ_mk (.val (.bool true)) rfl (by first | rfl | simp))
              · intro a wx hb hd hs ho hp
                refine ⟨rfl, ?_⟩
                have h124 : a.tmps.getD 124 undef = .bool true := qval_at hp 6 124 (by kernel_rfl) rfl
                unfold Oper.wp
                go_simp
                exact Stepped.at rfl hd (Below.refl _ _) (FQ_mk (.val (.bool true)) rfl (by first | rfl | simp))
              · intro a wx hb hd hs ho hp
                refine ⟨wanted_true rfl (yielded_at (k := 7) (d := 125) (by kernel_rfl) (qval_at hp 7 125 (by kernel_rfl) rfl)), ?_⟩
                have h10 : a.tmps.getD 10 undef = _ := (ho 10 (by kernel_rfl)).trans rfl
                unfold Oper.wp
                go_simp
                exact Stepped.at rfl hd (Below.refl _ _) (FQ_mk (.val (.slice (some ⟨b2, off2, none⟩) 1 cap5)) rfl (by first | rfl | simp))
              · intro a wx hb hd hs ho hp
                refine ⟨wanted_true rfl (yielded_at (k := 7) (d := 125) (by kernel_rfl) (qval_at hp 7 125 (by kernel_rfl) rfl)), ?_⟩
                have h126 : a.tmps.getD 126 undef = .slice (some ⟨b2, off2, none⟩) 1 cap5 := qval_at hp 8 126 (by kernel_rfl) rfl
                unfold Oper.wp
                go_simp
                exact Stepped.at rfl hd (Below.refl _ _) (FQ_mk (.val (.pointer (some ⟨b2, off2, none⟩))) rfl (by first | rfl | simp))
              · intro a wx hb hd hs ho hp
                refine ⟨wanted_true rfl (yielded_at (k := 7) (d := 125) (by kernel_rfl) (qval_at hp 7 125 (by kernel_rfl) rfl)), ?_⟩
                have h127 : a.tmps.getD 127 undef = .pointer (some ⟨b2, off2, none⟩) := qval_at hp 9 127 (by kernel_rfl) rfl
                unfold Oper.wp
                go_simp
                exact Stepped.at rfl hd (Below.refl _ _) (FQ_mk (.val (.pointer (some ⟨b2, off2, none⟩))) rfl (by first | rfl | simp))
              · intro a wx hb hd hs ho hp
                refine ⟨wanted_true rfl (yielded_at (k := 7) (d := 125) (by kernel_rfl) (qval_at hp 7 125 (by kernel_rfl) rfl)), ?_⟩
                have h128 : a.tmps.getD 128 undef = .pointer (some ⟨b2, off2, none⟩) := qval_at hp 10 128 (by kernel_rfl) rfl
                have x0 := (hb.cell (p := ⟨b2, off2, none⟩) hlb2).trans q0
                unfold Oper.wp
                go_simp
                exact Stepped.at rfl hd (Below.refl _ _) (FQ_mk (.val (.int .u8 3)) rfl rfl)
              · intro a wx hb hd hs ho hp
                refine ⟨wanted_true rfl (yielded_at (k := 7) (d := 125) (by kernel_rfl) (qval_at hp 7 125 (by kernel_rfl) rfl)), ?_⟩
                have h129 : a.tmps.getD 129 undef = .int .u8 3 := qval_at hp 11 129 (by kernel_rfl) rfl
                unfold Oper.wp
                go_simp
                exact Stepped.at rfl hd (Below.refl _ _) (FQ_mk (.val (.bool true)) rfl (by first | rfl | simp))
              · intro a wx hb hd hs ho hp
                refine ⟨rfl, ?_⟩
                have h125 : a.tmps.getD 125 undef = .bool true := qval_at hp 7 125 (by kernel_rfl) rfl
                have h130 : a.tmps.getD 130 undef = .bool true := qval_at hp 12 130 (by kernel_rfl) rfl
                unfold Oper.wp
                go_simp
                exact Stepped.at rfl hd (Below.refl _ _) (FQ_mk (.val (.bool true)) rfl (by first | rfl | simp))
              · intro a wx hb hd hs ho hp
                refine ⟨rfl, ?_⟩
                have h131 : a.tmps.getD 131 undef = .bool true := qval_at hp 13 131 (by kernel_rfl) rfl
                unfold Oper.wp
                go_simp
                exact Stepped.at rfl hd (Below.refl _ _) (FQ_mk (.val (.bool true)) rfl (by first | rfl | simp))
              · intro a wx hb hd hs ho hp
                refine ⟨wanted_true rfl (yielded_at (k := 14) (d := 132) (by kernel_rfl) (qval_at hp 14 132 (by kernel_rfl) rfl)), ?_⟩
                have h10 : a.tmps.getD 10 undef = _ := (ho 10 (by kernel_rfl)).trans rfl
                unfold Oper.wp
                go_simp
                exact Stepped.at rfl hd (Below.refl _ _) (FQ_mk (.val (.slice (some ⟨b2, off2, none⟩) 1 cap5)) rfl (by first | rfl | simp))
              · intro a wx hb hd hs ho hp
                refine ⟨wanted_true rfl (yielded_at (k := 14) (d := 132) (by kernel_rfl) (qval_at hp 14 132 (by kernel_rfl) rfl)), ?_⟩
                have h133 : a.tmps.getD 133 undef = .slice (some ⟨b2, off2, none⟩) 1 cap5 := qval_at hp 15 133 (by kernel_rfl) rfl
                unfold Oper.wp
                go_simp
                exact Stepped.at rfl hd (Below.refl _ _) (FQ_mk (.val (.pointer (some ⟨b2, off2, none⟩))) rfl (by first | rfl | simp))
              · intro a wx hb hd hs ho hp
                refine ⟨wanted_true rfl (yielded_at (k := 14) (d := 132) (by kernel_rfl) (qval_at hp 14 132 (by kernel_rfl) rfl)), ?_⟩
                have h134 : a.tmps.getD 134 undef = .pointer (some ⟨b2, off2, none⟩) := qval_at hp 16 134 (by kernel_rfl) rfl
                unfold Oper.wp
                go_simp
                exact Stepped.at rfl hd (Below.refl _ _) (FQ_mk (.val (.pointer (some ⟨b2, off2 + 1, none⟩))) rfl (by first | rfl | simp))
              · intro a wx hb hd hs ho hp
                refine ⟨wanted_true rfl (yielded_at (k := 14) (d := 132) (by kernel_rfl) (qval_at hp 14 132 (by kernel_rfl) rfl)), ?_⟩
                have h135 : a.tmps.getD 135 undef = .pointer (some ⟨b2, off2 + 1, none⟩) := qval_at hp 17 135 (by kernel_rfl) rfl
                have x0 := (hb.cell (p := ⟨b2, off2 + 1, none⟩) hlb2).trans q1
                unfold Oper.wp
                go_simp
                exact Stepped.at rfl hd (Below.refl _ _) (FQ_mk (.val (.string (decB u))) rfl rfl)
              · intro a wx hb hd hs ho hp
                refine ⟨wanted_true rfl (yielded_at (k := 14) (d := 132) (by kernel_rfl) (qval_at hp 14 132 (by kernel_rfl) rfl)), ?_⟩
                have h9 : a.tmps.getD 9 undef = _ := (ho 9 (by kernel_rfl)).trans rfl
                have x0 := (hb.cell (p := ⟨X, 0, none⟩) hlx).trans y0
                have x1 := (hb.cell (p := ⟨X, 1, none⟩) hlx).trans y1
                have x2 := (hb.cell (p := ⟨X, 2, none⟩) hlx).trans y2
                have x3 := (hb.cell (p := ⟨X, 3, none⟩) hlx).trans y3
                unfold Oper.wp
                go_simp
                exact Stepped.at rfl hd (Below.refl _ _) (FQ_mk (.val (.agg #[.int .u8 1, .int .i64 n, .string ⟨#[]⟩, .slice none 0 0])) rfl rfl)
              · intro a wx hb hd hs ho hp
                refine ⟨wanted_true rfl (yielded_at (k := 14) (d := 132) (by kernel_rfl) (qval_at hp 14 132 (by kernel_rfl) rfl)), ?_⟩
                have h137 : a.tmps.getD 137 undef = .agg #[.int .u8 1, .int .i64 n, .string ⟨#[]⟩, .slice none 0 0] := qval_at hp 19 137 (by kernel_rfl) rfl
                unfold Oper.wp
                go_simp
                refine ((HS5.out wx hb)).mono ?_
                rintro e w2 ⟨rfl, hb2⟩
                exact Stepped.at rfl hd hb2 (FQ_mk (.val (.string (decB u))) rfl rfl)
              · intro a wx hb hd hs ho hp
                refine ⟨wanted_true rfl (yielded_at (k := 14) (d := 132) (by kernel_rfl) (qval_at hp 14 132 (by kernel_rfl) rfl)), ?_⟩
                have h136 : a.tmps.getD 136 undef = .string (decB u) := qval_at hp 18 136 (by kernel_rfl) rfl
                have h138 : a.tmps.getD 138 undef = .string (decB u) := qval_at hp 20 138 (by kernel_rfl) rfl
                unfold Oper.wp
                go_simp
                exact Stepped.at rfl hd (Below.refl _ _) (FQ_mk (.val (.bool true)) rfl (by first | rfl | simp))
              · intro a wx hb hd hs ho hp
                refine ⟨rfl, ?_⟩
                have h132 : a.tmps.getD 132 undef = .bool true := qval_at hp 14 132 (by kernel_rfl) rfl
                have h139 : a.tmps.getD 139 undef = .bool true := qval_at hp 21 139 (by kernel_rfl) rfl
                unfold Oper.wp
                go_simp
                exact Stepped.at rfl hd (Below.refl _ _) (FQ_mk (.val (.bool true)) rfl (by first | rfl | simp))
            intro a7 w7 hb7 hd7 hs7 ho7 hf7
            have k118 : a7.tmps.getD 118 undef = .int .i64 0 := FQ_at (.val (.int .i64 0)) rfl (facts_to hf7 0 118 (by decide) (by kernel_rfl))
            have k119 : a7.tmps.getD 119 undef = .bool true := FQ_at (.val (.bool true)) rfl (facts_to hf7 1 119 (by decide) (by kernel_rfl))
            have k120 : a7.tmps.getD 120 undef = .bool true := FQ_at (.val (.bool true)) rfl (facts_to hf7 2 120 (by decide) (by kernel_rfl))
            have k121 : a7.tmps.getD 121 undef = .slice (some ⟨b2, off2, none⟩) 1 cap5 := FQ_at (.val (.slice (some ⟨b2, off2, none⟩) 1 cap5)) rfl (facts_to hf7 3 121 (by decide) (by kernel_rfl))
            have k122 : a7.tmps.getD 122 undef = .int .i64 1 := FQ_at (.val (.int .i64 1)) rfl (facts_to hf7 4 122 (by decide) (by kernel_rfl))
            have k123 : a7.tmps.getD 123 undef = .bool true := FQ_at (.val (.bool true)) rfl (facts_to hf7 5 123 (by decide) (by kernel_rfl))
            have k124 : a7.tmps.getD 124 undef = .bool true := FQ_at (.val (.bool true)) rfl (facts_to hf7 6 124 (by decide) (by kernel_rfl))
            have k125 : a7.tmps.getD 125 undef = .bool true := FQ_at (.val (.bool true)) rfl (facts_to hf7 7 125 (by decide) (by kernel_rfl))
            have k126 : a7.tmps.getD 126 undef = .slice (some ⟨b2, off2, none⟩) 1 cap5 := FQ_at (.val (.slice (some ⟨b2, off2, none⟩) 1 cap5)) rfl (facts_to hf7 8 126 (by decide) (by kernel_rfl))
            have k127 : a7.tmps.getD 127 undef = .pointer (some ⟨b2, off2, none⟩) := FQ_at (.val (.pointer (some ⟨b2, off2, none⟩))) rfl (facts_to hf7 9 127 (by decide) (by kernel_rfl))
            have k128 : a7.tmps.getD 128 undef = .pointer (some ⟨b2, off2, none⟩) := FQ_at (.val (.pointer (some ⟨b2, off2, none⟩))) rfl (facts_to hf7 10 128 (by decide) (by kernel_rfl))
            have k129 : a7.tmps.getD 129 undef = .int .u8 3 := FQ_at (.val (.int .u8 3)) rfl (facts_to hf7 11 129 (by decide) (by kernel_rfl))
            have k130 : a7.tmps.getD 130 undef = .bool true := FQ_at (.val (.bool true)) rfl (facts_to hf7 12 130 (by decide) (by kernel_rfl))
            have k131 : a7.tmps.getD 131 undef = .bool true := FQ_at (.val (.bool true)) rfl (facts_to hf7 13 131 (by decide) (by kernel_rfl))
            have k132 : a7.tmps.getD 132 undef = .bool true := FQ_at (.val (.bool true)) rfl (facts_to hf7 14 132 (by decide) (by kernel_rfl))
            have k133 : a7.tmps.getD 133 undef = .slice (some ⟨b2, off2, none⟩) 1 cap5 := FQ_at (.val (.slice (some ⟨b2, off2, none⟩) 1 cap5)) rfl (facts_to hf7 15 133 (by decide) (by kernel_rfl))
            have k134 : a7.tmps.getD 134 undef = .pointer (some ⟨b2, off2, none⟩) := FQ_at (.val (.pointer (some ⟨b2, off2, none⟩))) rfl (facts_to hf7 16 134 (by decide) (by kernel_rfl))
            have k135 : a7.tmps.getD 135 undef = .pointer (some ⟨b2, off2 + 1, none⟩) := FQ_at (.val (.pointer (some ⟨b2, off2 + 1, none⟩))) rfl (facts_to hf7 17 135 (by decide) (by kernel_rfl))
            have k136 : a7.tmps.getD 136 undef = .string (decB u) := FQ_at (.val (.string (decB u))) rfl (facts_to hf7 18 136 (by decide) (by kernel_rfl))
            have k137 : a7.tmps.getD 137 undef = .agg #[.int .u8 1, .int .i64 n, .string ⟨#[]⟩, .slice none 0 0] := FQ_at (.val (.agg #[.int .u8 1, .int .i64 n, .string ⟨#[]⟩, .slice none 0 0])) rfl (facts_to hf7 19 137 (by decide) (by kernel_rfl))
            have k138 : a7.tmps.getD 138 undef = .string (decB u) := FQ_at (.val (.string (decB u))) rfl (facts_to hf7 20 138 (by decide) (by kernel_rfl))
            have k139 : a7.tmps.getD 139 undef = .bool true := FQ_at (.val (.bool true)) rfl (facts_to hf7 21 139 (by decide) (by kernel_rfl))
            have k140 : a7.tmps.getD 140 undef = .bool true := FQ_at (.val (.bool true)) rfl (facts_to hf7 22 140 (by decide) (by kernel_rfl))
            have hE7 := slots_all a7.tmps 141 (hs7.trans rfl)
            simp only [List.range, List.range.loop, List.map, k118, k119, k120, k121, k122, k123, k124, k125, k126, k127, k128, k129, k130, k131, k132, k133, k134, k135, k136, k137, k138, k139, k140, ho7 0 (by kernel_rfl), ho7 1 (by kernel_rfl), ho7 2 (by kernel_rfl), ho7 3 (by kernel_rfl), ho7 4 (by kernel_rfl), ho7 5 (by kernel_rfl), ho7 6 (by kernel_rfl), ho7 7 (by kernel_rfl), ho7 8 (by kernel_rfl), ho7 9 (by kernel_rfl), ho7 10 (by kernel_rfl), ho7 11 (by kernel_rfl), ho7 12 (by kernel_rfl), ho7 13 (by kernel_rfl), ho7 14 (by kernel_rfl), ho7 15 (by kernel_rfl), ho7 16 (by kernel_rfl), ho7 17 (by kernel_rfl), ho7 18 (by kernel_rfl), ho7 19 (by kernel_rfl), ho7 20 (by kernel_rfl), ho7 21 (by kernel_rfl), ho7 22 (by kernel_rfl), ho7 23 (by kernel_rfl), ho7 24 (by kernel_rfl), ho7 25 (by kernel_rfl), ho7 26 (by kernel_rfl), ho7 27 (by kernel_rfl), ho7 28 (by kernel_rfl), ho7 29 (by kernel_rfl), ho7 30 (by kernel_rfl), ho7 31 (by kernel_rfl), ho7 32 (by kernel_rfl), ho7 33 (by kernel_rfl), ho7 34 (by kernel_rfl), ho7 35 (by kernel_rfl), ho7 36 (by kernel_rfl), ho7 37 (by kernel_rfl), ho7 38 (by kernel_rfl), ho7 39 (by kernel_rfl), ho7 40 (by kernel_rfl), ho7 41 (by kernel_rfl), ho7 42 (by kernel_rfl), ho7 43 (by kernel_rfl), ho7 44 (by kernel_rfl), ho7 45 (by kernel_rfl), ho7 46 (by kernel_rfl), ho7 47 (by kernel_rfl), ho7 48 (by kernel_rfl), ho7 49 (by kernel_rfl), ho7 50 (by kernel_rfl), ho7 51 (by kernel_rfl), ho7 52 (by kernel_rfl), ho7 53 (by kernel_rfl), ho7 54 (by kernel_rfl), ho7 55 (by kernel_rfl), ho7 56 (by kernel_rfl), ho7 57 (by kernel_rfl), ho7 58 (by kernel_rfl), ho7 59 (by kernel_rfl), ho7 60 (by kernel_rfl), ho7 61 (by kernel_rfl), ho7 62 (by kernel_rfl), ho7 63 (by kernel_rfl), ho7 64 (by kernel_rfl), ho7 65 (by kernel_rfl), ho7 66 (by kernel_rfl), ho7 67 (by kernel_rfl), ho7 68 (by kernel_rfl), ho7 69 (by kernel_rfl), ho7 70 (by kernel_rfl), ho7 71 (by kernel_rfl), ho7 72 (by kernel_rfl), ho7 73 (by kernel_rfl), ho7 74 (by kernel_rfl), ho7 75 (by kernel_rfl), ho7 76 (by kernel_rfl), ho7 77 (by kernel_rfl), ho7 78 (by kernel_rfl), ho7 79 (by kernel_rfl), ho7 80 (by kernel_rfl), ho7 81 (by kernel_rfl), ho7 82 (by kernel_rfl), ho7 83 (by kernel_rfl), ho7 84 (by kernel_rfl), ho7 85 (by kernel_rfl), ho7 86 (by kernel_rfl), ho7 87 (by kernel_rfl), ho7 88 (by kernel_rfl), ho7 89 (by kernel_rfl), ho7 90 (by kernel_rfl), ho7 91 (by kernel_rfl), ho7 92 (by kernel_rfl), ho7 93 (by kernel_rfl), ho7 94 (by kernel_rfl), ho7 95 (by kernel_rfl), ho7 96 (by kernel_rfl), ho7 97 (by kernel_rfl), ho7 98 (by kernel_rfl), ho7 99 (by kernel_rfl), ho7 100 (by kernel_rfl), ho7 101 (by kernel_rfl), ho7 102 (by kernel_rfl), ho7 103 (by kernel_rfl), ho7 104 (by kernel_rfl), ho7 105 (by kernel_rfl), ho7 106 (by kernel_rfl), ho7 107 (by kernel_rfl), ho7 108 (by kernel_rfl), ho7 109 (by kernel_rfl), ho7 110 (by kernel_rfl), ho7 111 (by kernel_rfl), ho7 112 (by kernel_rfl), ho7 113 (by kernel_rfl), ho7 114 (by kernel_rfl), ho7 115 (by kernel_rfl), ho7 116 (by kernel_rfl), ho7 117 (by kernel_rfl)] at hE7
            obtain ⟨T7, D7⟩ := a7
            simp only at hE7 hd7
            subst hd7 hE7
            have HB7 := Lib.hid (HB4.out.trans (hb7.mono HB4.out.size))
            clear k118 k119 k120 k121 k122 k123 k124 k125 k126 k127 k128 k129 k130 k131 k132 k133 k134 k135 k136 k137 k138 k139 k140 hf7 hs7 ho7 hb7
            simp only [List.drop_succ_cons, List.drop_zero]
            go_wp2_with fail
            go_ret
            exact ⟨rfl, HB7.out⟩
    · obtain ⟨hall, herr⟩ := lex_word hW
      cases hNo : notB s
      · cases hSy : symbolB s
        · have hVa : variableB s = true := by rw [hNo, hSy] at hW; simpa using hW
          have hK : wordK s = 2 := by unfold wordK; rw [hNo, hSy, hVa]; rfl
          rw [hK] at hall
          rw [hall] at hV
          obtain ⟨p1, cap1, rfl, hc1⟩ := hV
          obtain ⟨b, off, rfl, hlb, hc1⟩ := hc1 (by simp)
          obtain ⟨g0, g1, _⟩ := hc1 0 _ rfl
          simp only [Nat.zero_mul, Nat.add_zero] at g0 g1
          have g1' : W2.cell? ⟨b, off + 1, none⟩ = some (.string s) := g1
          have ns : (s.toList == s.toList) = true := by simp
          have HNT := hNT
          rw [hNo] at HNT
          rw [hSy] at HSY
          rw [hVa] at HVR
          clear hc1 hall herr hW hK hNo hSy hVa hNT
          as_aux_lemma =>
            go_wp2_with (first | (go_at_call 10; refine (HSY.out _).mono ?_; rintro e w2 ⟨rfl, rfl⟩) | (go_at_call 11; refine (HVR.out _).mono ?_; rintro e w2 ⟨rfl, rfl⟩))
            obtain ⟨X, hX⟩ : ∃ X, W2.heap.size = X := ⟨_, rfl⟩
            obtain ⟨W3, hW3⟩ : ∃ W3, W2.alloc (.cells #[.int .u8 1, .int .i64 n, .string ⟨#[]⟩, .slice none 0 0] 36) = W3 := ⟨_, rfl⟩
            have hx3 : W3.heap[X]? = some (.cells #[.int .u8 1, .int .i64 n, .string ⟨#[]⟩, .slice none 0 0] 36 (0, 0)) := by rw [← hW3, ← hX]; exact World.alloc_heap_new _ _
            have hB3 : Below w.heap.size w W3 := by rw [← hW3]; exact HB2.out.alloc HB2.out.size _
            have hXw : w.heap.size ≤ X := by rw [← hX]; exact HB2.out.size
            have y0 := cells_at hx3 0 _ rfl
            have y1 := cells_at hx3 1 _ rfl
            have y2 := cells_at hx3 2 _ rfl
            have y3 := cells_at hx3 3 _ rfl
            have HX3 := Lib.hid hx3
            have HB3 := Lib.hid hB3
            clear hx3 hB3
            first | rw [hW3] | skip
            go_wp2_with fail
            first | rw [hW3] | skip
            refine (HST.out W3 HB3.out).mono ?_
            rintro e W4 ⟨rfl, hB4⟩
            have HB4 := Lib.hid (HB3.out.trans (hB4.mono HB3.out.size))
            have HX4 := Lib.hid ((hB4.block X (Array.getElem?_eq_some_iff.1 HX3.out).1).trans HX3.out)
            clear hB4 y0 y1 y2 y3 HB3 HX3
            clear hW3
            rcases HCS.out with ⟨hv, hst⟩ | ⟨hv, hun, hn0, u, hu, hst⟩ | ⟨hv, hun, hn0, u, hu, hst⟩
            · rw [hst]
              rw [hv] at HVA
              go_wp2_with fail
              refine (lex_ok _ W4 (by decide) (HE.out.below HB4.out) empty_err).mono ?_
              rintro e W5 ⟨k5, rfl, hk5, hB5⟩
              have HB5 := Lib.hid (HB4.out.trans (hB5.mono HB4.out.size))
              have HX5 := Lib.hid ((hB5.block X (Array.getElem?_eq_some_iff.1 HX4.out).1).trans HX4.out)
              clear hB5 HB4 HX4
              rw [empty_all] at hk5
              obtain ⟨p5, cap5, rfl, _⟩ := hk5
              have y0 := cells_at HX5.out 0 _ rfl
              have y1 := cells_at HX5.out 1 _ rfl
              have y2 := cells_at HX5.out 2 _ rfl
              have y3 := cells_at HX5.out 3 _ rfl
              go_wp2_with fail
              refine (HVA.out W5 HB5.out).mono ?_
              rintro e W6 ⟨rfl, hB6⟩
              have HB6 := Lib.hid (HB5.out.trans (hB6.mono HB5.out.size))
              have HX6 := Lib.hid ((hB6.block X (Array.getElem?_eq_some_iff.1 HX5.out).1).trans HX5.out)
              clear y0 y1 y2 y3
              clear hB6 HB5 HX5
              go_wp2_with fail
              go_ret
              exact ⟨rfl, HB6.out⟩
            · rw [hst]
              rw [hv] at HVA
              obtain ⟨ty, tz, hall, herr, hty, htz⟩ := lex_neg hu
              have hdn : decide ((n : Int) < 0) = true := decide_eq_true hn0
              go_wp2_with fail
              refine (lex_ok _ W4 (by rw [negB_size]; have := dec_len hu; omega) (HE.out.below HB4.out) herr).mono ?_
              rintro e W5 ⟨k5, rfl, hk5, hB5⟩
              have HB5 := Lib.hid (HB4.out.trans (hB5.mono HB4.out.size))
              have HX5 := Lib.hid ((hB5.block X (Array.getElem?_eq_some_iff.1 HX4.out).1).trans HX4.out)
              clear hB5 HB4 HX4
              rw [hall] at hk5
              obtain ⟨p5, cap5, rfl, hc5⟩ := hk5
              obtain ⟨b2, off2, rfl, hlb2, hc5⟩ := hc5 (by simp)
              have q1 := (hc5 0 ty rfl).2.1
              have q3 := (hc5 1 tz rfl).1
              rw [hty] at q1
              rw [htz] at q3
              rw [Nat.zero_mul, Nat.add_zero] at q1
              rw [Nat.one_mul] at q3
              have y0 := cells_at HX5.out 0 _ rfl
              have y1 := cells_at HX5.out 1 _ rfl
              have y2 := cells_at HX5.out 2 _ rfl
              have y3 := cells_at HX5.out 3 _ rfl
              go_wp2_with fail
              refine (HVA.out W5 HB5.out).mono ?_
              rintro e W6 ⟨rfl, hB6⟩
              have HB6 := Lib.hid (HB5.out.trans (hB6.mono HB5.out.size))
              have HX6 := Lib.hid ((hB6.block X (Array.getElem?_eq_some_iff.1 HX5.out).1).trans HX5.out)
              clear y0 y1 y2 y3
              have q1 := (hB6.cell (p := ⟨b2, off2 + 1, none⟩) hlb2).trans q1
              have q3 := (hB6.cell (p := ⟨b2, off2 + 3, none⟩) hlb2).trans q3
              have e45 : ((⟨#[45]⟩ : ByteArray).toList == [45]) = true := by decide +kernel
              clear hB6 HB5 HX5 hc5 hst hall herr hty htz hun
              go_wp2_with fail
              go_ret
              exact ⟨rfl, HB6.out⟩
            · rw [hst]
              rw [hv] at HVA
              obtain ⟨hall, herr⟩ := lex_dec hu
              have hdn : decide ((n : Int) < 0) = false := decide_eq_false (by omega)
              go_wp2_with fail
              refine (lex_ok _ W4 (by rw [decB_size]; have := dec_len hu; omega) (HE.out.below HB4.out) herr).mono ?_
              rintro e W5 ⟨k5, rfl, hk5, hB5⟩
              have HB5 := Lib.hid (HB4.out.trans (hB5.mono HB4.out.size))
              have HX5 := Lib.hid ((hB5.block X (Array.getElem?_eq_some_iff.1 HX4.out).1).trans HX4.out)
              clear hB5 HB4 HX4
              rw [hall] at hk5
              obtain ⟨p5, cap5, rfl, hc5⟩ := hk5
              obtain ⟨b2, off2, rfl, hlb2, hc5⟩ := hc5 (by simp)
              obtain ⟨q0, q1, _⟩ := hc5 0 _ rfl
              simp only [Nat.zero_mul, Nat.add_zero] at q0 q1
              have y0 := cells_at HX5.out 0 _ rfl
              have y1 := cells_at HX5.out 1 _ rfl
              have y2 := cells_at HX5.out 2 _ rfl
              have y3 := cells_at HX5.out 3 _ rfl
              go_wp2_with fail
              refine (HVA.out W5 HB5.out).mono ?_
              rintro e W6 ⟨rfl, hB6⟩
              have HB6 := Lib.hid (HB5.out.trans (hB6.mono HB5.out.size))
              have HX6 := Lib.hid ((hB6.block X (Array.getElem?_eq_some_iff.1 HX5.out).1).trans HX5.out)
              clear y0 y1 y2 y3
              have q0 := (hB6.cell (p := ⟨b2, off2, none⟩) hlb2).trans q0
              have q1 := (hB6.cell (p := ⟨b2, off2 + 1, none⟩) hlb2).trans q1
              have hlb2 := Nat.lt_of_lt_of_le hlb2 hB6.size
              have y0 := cells_at HX6.out 0 _ rfl
              have y1 := cells_at HX6.out 1 _ rfl
              have y2 := cells_at HX6.out 2 _ rfl
              have y3 := cells_at HX6.out 3 _ rfl
              have hlx := (Array.getElem?_eq_some_iff.1 HX6.out).1
              have HS5 : Hid (∀ wx, Below W6.heap.size W6 wx → Calls Tryz.prog 12 #[.agg #[.int .u8 1, .int .i64 n, .string ⟨#[]⟩, .slice none 0 0]] wx fun e w' => e = .returned (.string (decB u)) ∧ Below wx.heap.size wx w') := Lib.hid (fun wx hwx => by
                rw [← hst]; exact HST.out wx (HB6.out.trans (hwx.mono HB6.out.size)))
              have HB4 := HB6
              have nd : ((decB u).toList == (decB u).toList) = true := by simp
              clear hB6 HB5 HX5 HB6 HX6 hc5 hall herr hst hun HST HVA HCS
              go_wp2_with fail
              refine wp_region_grow_tail (by kernel_rfl) 23 (FQ [ .val (.int .i64 0), .val (.bool true), .val (.bool true), .val (.slice (some ⟨b2, off2, none⟩) 1 cap5), .val (.int .i64 1), .val (.bool true), .val (.bool true), .val (.bool true), .val (.slice (some ⟨b2, off2, none⟩) 1 cap5), .val (.pointer (some ⟨b2, off2, none⟩)), .val (.pointer (some ⟨b2, off2, none⟩)), .val (.int .u8 3), .val (.bool true), .val (.bool true), .val (.bool true), .val (.slice (some ⟨b2, off2, none⟩) 1 cap5), .val (.pointer (some ⟨b2, off2, none⟩)), .val (.pointer (some ⟨b2, off2 + 1, none⟩)), .val (.string (decB u)), .val (.agg #[.int .u8 1, .int .i64 n, .string ⟨#[]⟩, .slice none 0 0]), .val (.string (decB u)), .val (.bool true), .val (.bool true)]) (FQ_grow _) (by kernel_rfl) (by kernel_rfl) (steps_to ?_) ?_
              · simp only [List.take_succ_cons, List.take_zero]
                refine ⟨?_, ?_, ?_, ?_, ?_, ?_, ?_, ?_, ?_, ?_, ?_, ?_, ?_, ?_, ?_, ?_, ?_, ?_, ?_, ?_, ?_, ?_, ?_, trivial⟩
                · intro a wx hb hd hs ho hp
                  refine ⟨rfl, ?_⟩
                  have h12 : a.tmps.getD 12 undef = _ := (ho 12 (by kernel_rfl)).trans rfl
                  unfold Oper.wp
                  go_simp
                  exact Stepped.at rfl hd (Below.refl _ _) (FQ_mk (.val (.int .i64 0)) rfl (by first | rfl | simp))
                · intro a wx hb hd hs ho hp
                  refine ⟨rfl, ?_⟩
                  have h118 : a.tmps.getD 118 undef = .int .i64 0 := qval_at hp 0 118 (by kernel_rfl) rfl
                  unfold Oper.wp
                  go_simp
                  exact Stepped.at rfl hd (Below.refl _ _) (FQ_mk (.val (.bool true)) rfl (by first | rfl | simp))
                · intro a wx hb hd hs ho hp
                  refine ⟨rfl, ?_⟩
                  have h119 : a.tmps.getD 119 undef = .bool true := qval_at hp 1 119 (by kernel_rfl) rfl
                  unfold Oper.wp
                  go_simp
                  exact Stepped.at rfl hd (Below.refl _ _) (FQ_mk (.val (.bool true)) rfl (by first | rfl | simp))
                · intro a wx hb hd hs ho hp
                  refine ⟨wanted_true rfl (yielded_at (k := 2) (d := 120) (by kernel_rfl) (qval_at hp 2 120 (by kernel_rfl) rfl)), ?_⟩
                  have h10 : a.tmps.getD 10 undef = _ := (ho 10 (by kernel_rfl)).trans rfl
                  unfold Oper.wp
                  go_simp
                  exact Stepped.at rfl hd (Below.refl _ _) (FQ_mk (.val (.slice (some ⟨b2, off2, none⟩) 1 cap5)) rfl (by first | rfl | simp))
                · intro a wx hb hd hs ho hp
                  refine ⟨wanted_true rfl (yielded_at (k := 2) (d := 120) (by kernel_rfl) (qval_at hp 2 120 (by kernel_rfl) rfl)), ?_⟩
                  have h121 : a.tmps.getD 121 undef = .slice (some ⟨b2, off2, none⟩) 1 cap5 := qval_at hp 3 121 (by kernel_rfl) rfl
                  unfold Oper.wp
                  go_simp
                  exact Stepped.at rfl hd (Below.refl _ _) (FQ_mk (.val (.int .i64 1)) rfl (by first | rfl | simp))
                · intro a wx hb hd hs ho hp
                  refine ⟨wanted_true rfl (yielded_at (k := 2) (d := 120) (by kernel_rfl) (qval_at hp 2 120 (by kernel_rfl) rfl)), ?_⟩
                  have h122 : a.tmps.getD 122 undef = .int .i64 1 := qval_at hp 4 122 (by kernel_rfl) rfl
                  unfold Oper.wp
                  go_simp
                  exact Stepped.at rfl hd (Below.refl _ _) (FQ_mk (.val (.bool true)) rfl (by first | rfl | simp))
                · intro a wx hb hd hs ho hp
                  refine ⟨rfl, ?_⟩
                  have h120 : a.tmps.getD 120 undef = .bool true := qval_at hp 2 120 (by kernel_rfl) rfl
                  have h123 : a.tmps.getD 123 undef = .bool true := qval_at hp 5 123 (by kernel_rfl) rfl
                  unfold Oper.wp
                  go_simp
                  exact Stepped.at rfl hd (Below.refl _ _) (FQ_mk (.val (.bool true)) rfl (by first | rfl | simp))
                · intro a wx hb hd hs ho hp
                  refine ⟨rfl, ?_⟩
                  have h124 : a.tmps.getD 124 undef = .bool true := qval_at hp 6 124 (by kernel_rfl) rfl
                  unfold Oper.wp
                  go_simp
                  exact Stepped.at rfl hd (Below.refl _ _) (FQ_mk (.val (.bool true)) rfl (by first | rfl | simp))
                · intro a wx hb hd hs ho hp
                  refine ⟨wanted_true rfl (yielded_at (k := 7) (d := 125) (by kernel_rfl) (qval_at hp 7 125 (by kernel_rfl) rfl)), ?_⟩
                  have h10 : a.tmps.getD 10 undef = _ := (ho 10 (by kernel_rfl)).trans rfl
                  unfold Oper.wp
                  go_simp
                  exact Stepped.at rfl hd (Below.refl _ _) (FQ_mk (.val (.slice (some ⟨b2, off2, none⟩) 1 cap5)) rfl (by first | rfl | simp))
                · intro a wx hb hd hs ho hp
                  refine ⟨wanted_true rfl (yielded_at (k := 7) (d := 125) (by kernel_rfl) (qval_at hp 7 125 (by kernel_rfl) rfl)), ?_⟩
                  have h126 : a.tmps.getD 126 undef = .slice (some ⟨b2, off2, none⟩) 1 cap5 := qval_at hp 8 126 (by kernel_rfl) rfl
                  unfold Oper.wp
                  go_simp
                  exact Stepped.at rfl hd (Below.refl _ _) (FQ_mk (.val (.pointer (some ⟨b2, off2, none⟩))) rfl (by first | rfl | simp))
                · intro a wx hb hd hs ho hp
                  refine ⟨wanted_true rfl (yielded_at (k := 7) (d := 125) (by kernel_rfl) (qval_at hp 7 125 (by kernel_rfl) rfl)), ?_⟩
                  have h127 : a.tmps.getD 127 undef = .pointer (some ⟨b2, off2, none⟩) := qval_at hp 9 127 (by kernel_rfl) rfl
                  unfold Oper.wp
                  go_simp
                  exact Stepped.at rfl hd (Below.refl _ _) (FQ_mk (.val (.pointer (some ⟨b2, off2, none⟩))) rfl (by first | rfl | simp))
                · intro a wx hb hd hs ho hp
                  refine ⟨wanted_true rfl (yielded_at (k := 7) (d := 125) (by kernel_rfl) (qval_at hp 7 125 (by kernel_rfl) rfl)), ?_⟩
                  have h128 : a.tmps.getD 128 undef = .pointer (some ⟨b2, off2, none⟩) := qval_at hp 10 128 (by kernel_rfl) rfl
                  have x0 := (hb.cell (p := ⟨b2, off2, none⟩) hlb2).trans q0
                  unfold Oper.wp
                  go_simp
                  exact Stepped.at rfl hd (Below.refl _ _) (FQ_mk (.val (.int .u8 3)) rfl rfl)
                · intro a wx hb hd hs ho hp
                  refine ⟨wanted_true rfl (yielded_at (k := 7) (d := 125) (by kernel_rfl) (qval_at hp 7 125 (by kernel_rfl) rfl)), ?_⟩
                  have h129 : a.tmps.getD 129 undef = .int .u8 3 := qval_at hp 11 129 (by kernel_rfl) rfl
                  unfold Oper.wp
                  go_simp
                  exact Stepped.at rfl hd (Below.refl _ _) (FQ_mk (.val (.bool true)) rfl (by first | rfl | simp))
                · intro a wx hb hd hs ho hp
                  refine ⟨rfl, ?_⟩
                  have h125 : a.tmps.getD 125 undef = .bool true := qval_at hp 7 125 (by kernel_rfl) rfl
                  have h130 : a.tmps.getD 130 undef = .bool true := qval_at hp 12 130 (by kernel_rfl) rfl
                  unfold Oper.wp
                  go_simp
                  exact Stepped.at rfl hd (Below.refl _ _) (FQ_mk (.val (.bool true)) rfl (by first | rfl | simp))
                · intro a wx hb hd hs ho hp
                  refine ⟨rfl, ?_⟩
                  have h131 : a.tmps.getD 131 undef = .bool true := qval_at hp 13 131 (by kernel_rfl) rfl
                  unfold Oper.wp
                  go_simp
                  exact Stepped.at rfl hd (Below.refl _ _) (FQ_mk (.val (.bool true)) rfl (by first | rfl | simp))
                · intro a wx hb hd hs ho hp
                  refine ⟨wanted_true rfl (yielded_at (k := 14) (d := 132) (by kernel_rfl) (qval_at hp 14 132 (by kernel_rfl) rfl)), ?_⟩
                  have h10 : a.tmps.getD 10 undef = _ := (ho 10 (by kernel_rfl)).trans rfl
                  unfold Oper.wp
                  go_simp
                  exact Stepped.at rfl hd (Below.refl _ _) (FQ_mk (.val (.slice (some ⟨b2, off2, none⟩) 1 cap5)) rfl (by first | rfl | simp))
                · intro a wx hb hd hs ho hp
                  refine ⟨wanted_true rfl (yielded_at (k := 14) (d := 132) (by kernel_rfl) (qval_at hp 14 132 (by kernel_rfl) rfl)), ?_⟩
                  have h133 : a.tmps.getD 133 undef = .slice (some ⟨b2, off2, none⟩) 1 cap5 := qval_at hp 15 133 (by kernel_rfl) rfl
                  unfold Oper.wp
                  go_simp
                  exact Stepped.at rfl hd (Below.refl _ _) (FQ_mk (.val (.pointer (some ⟨b2, off2, none⟩))) rfl (by first | rfl | simp))
                · intro a wx hb hd hs ho hp
                  refine ⟨wanted_true rfl (yielded_at (k := 14) (d := 132) (by kernel_rfl) (qval_at hp 14 132 (by kernel_rfl) rfl)), ?_⟩
                  have h134 : a.tmps.getD 134 undef = .pointer (some ⟨b2, off2, none⟩) := qval_at hp 16 134 (by kernel_rfl) rfl
                  unfold Oper.wp
                  go_simp
                  exact Stepped.at rfl hd (Below.refl _ _) (FQ_mk (.val (.pointer (some ⟨b2, off2 + 1, none⟩))) rfl (by first | rfl | simp))
                · intro a wx hb hd hs ho hp
                  refine ⟨wanted_true rfl (yielded_at (k := 14) (d := 132) (by kernel_rfl) (qval_at hp 14 132 (by kernel_rfl) rfl)), ?_⟩
                  have h135 : a.tmps.getD 135 undef = .pointer (some ⟨b2, off2 + 1, none⟩) := qval_at hp 17 135 (by kernel_rfl) rfl
                  have x0 := (hb.cell (p := ⟨b2, off2 + 1, none⟩) hlb2).trans q1
                  unfold Oper.wp
                  go_simp
                  exact Stepped.at rfl hd (Below.refl _ _) (FQ_mk (.val (.string (decB u))) rfl rfl)
                · intro a wx hb hd hs ho hp
                  refine ⟨wanted_true rfl (yielded_at (k := 14) (d := 132) (by kernel_rfl) (qval_at hp 14 132 (by kernel_rfl) rfl)), ?_⟩
                  have h9 : a.tmps.getD 9 undef = _ := (ho 9 (by kernel_rfl)).trans rfl
                  have x0 := (hb.cell (p := ⟨X, 0, none⟩) hlx).trans y0
                  have x1 := (hb.cell (p := ⟨X, 1, none⟩) hlx).trans y1
                  have x2 := (hb.cell (p := ⟨X, 2, none⟩) hlx).trans y2
                  have x3 := (hb.cell (p := ⟨X, 3, none⟩) hlx).trans y3
                  unfold Oper.wp
                  go_simp
                  exact Stepped.at rfl hd (Below.refl _ _) (FQ_mk (.val (.agg #[.int .u8 1, .int .i64 n, .string ⟨#[]⟩, .slice none 0 0])) rfl rfl)
                · intro a wx hb hd hs ho hp
                  refine ⟨wanted_true rfl (yielded_at (k := 14) (d := 132) (by kernel_rfl) (qval_at hp 14 132 (by kernel_rfl) rfl)), ?_⟩
                  have h137 : a.tmps.getD 137 undef = .agg #[.int .u8 1, .int .i64 n, .string ⟨#[]⟩, .slice none 0 0] := qval_at hp 19 137 (by kernel_rfl) rfl
                  unfold Oper.wp
                  go_simp
                  refine ((HS5.out wx hb)).mono ?_
                  rintro e w2 ⟨rfl, hb2⟩
                  exact Stepped.at rfl hd hb2 (FQ_mk (.val (.string (decB u))) rfl rfl)
                · intro a wx hb hd hs ho hp
                  refine ⟨wanted_true rfl (yielded_at (k := 14) (d := 132) (by kernel_rfl) (qval_at hp 14 132 (by kernel_rfl) rfl)), ?_⟩
                  have h136 : a.tmps.getD 136 undef = .string (decB u) := qval_at hp 18 136 (by kernel_rfl) rfl
                  have h138 : a.tmps.getD 138 undef = .string (decB u) := qval_at hp 20 138 (by kernel_rfl) rfl
                  unfold Oper.wp
                  go_simp
                  exact Stepped.at rfl hd (Below.refl _ _) (FQ_mk (.val (.bool true)) rfl (by first | rfl | simp))
                · intro a wx hb hd hs ho hp
                  refine ⟨rfl, ?_⟩
                  have h132 : a.tmps.getD 132 undef = .bool true := qval_at hp 14 132 (by kernel_rfl) rfl
                  have h139 : a.tmps.getD 139 undef = .bool true := qval_at hp 21 139 (by kernel_rfl) rfl
                  unfold Oper.wp
                  go_simp
                  exact Stepped.at rfl hd (Below.refl _ _) (FQ_mk (.val (.bool true)) rfl (by first | rfl | simp))
              intro a7 w7 hb7 hd7 hs7 ho7 hf7
              have k118 : a7.tmps.getD 118 undef = .int .i64 0 := FQ_at (.val (.int .i64 0)) rfl (facts_to hf7 0 118 (by decide) (by kernel_rfl))
              have k119 : a7.tmps.getD 119 undef = .bool true := FQ_at (.val (.bool true)) rfl (facts_to hf7 1 119 (by decide) (by kernel_rfl))
              have k120 : a7.tmps.getD 120 undef = .bool true := FQ_at (.val (.bool true)) rfl (facts_to hf7 2 120 (by decide) (by kernel_rfl))
              have k121 : a7.tmps.getD 121 undef = .slice (some ⟨b2, off2, none⟩) 1 cap5 := FQ_at (.val (.slice (some ⟨b2, off2, none⟩) 1 cap5)) rfl (facts_to hf7 3 121 (by decide) (by kernel_rfl))
              have k122 : a7.tmps.getD 122 undef = .int .i64 1 := FQ_at (.val (.int .i64 1)) rfl (facts_to hf7 4 122 (by decide) (by kernel_rfl))
              have k123 : a7.tmps.getD 123 undef = .bool true := FQ_at (.val (.bool true)) rfl (facts_to hf7 5 123 (by decide) (by kernel_rfl))
              have k124 : a7.tmps.getD 124 undef = .bool true := FQ_at (.val (.bool true)) rfl (facts_to hf7 6 124 (by decide) (by kernel_rfl))
              have k125 : a7.tmps.getD 125 undef = .bool true := FQ_at (.val (.bool true)) rfl (facts_to hf7 7 125 (by decide) (by kernel_rfl))
              have k126 : a7.tmps.getD 126 undef = .slice (some ⟨b2, off2, none⟩) 1 cap5 := FQ_at (.val (.slice (some ⟨b2, off2, none⟩) 1 cap5)) rfl (facts_to hf7 8 126 (by decide) (by kernel_rfl))
              have k127 : a7.tmps.getD 127 undef = .pointer (some ⟨b2, off2, none⟩) := FQ_at (.val (.pointer (some ⟨b2, off2, none⟩))) rfl (facts_to hf7 9 127 (by decide) (by kernel_rfl))
              have k128 : a7.tmps.getD 128 undef = .pointer (some ⟨b2, off2, none⟩) := FQ_at (.val (.pointer (some ⟨b2, off2, none⟩))) rfl (facts_to hf7 10 128 (by decide) (by kernel_rfl))
              have k129 : a7.tmps.getD 129 undef = .int .u8 3 := FQ_at (.val (.int .u8 3)) rfl (facts_to hf7 11 129 (by decide) (by kernel_rfl))
              have k130 : a7.tmps.getD 130 undef = .bool true := FQ_at (.val (.bool true)) rfl (facts_to hf7 12 130 (by decide) (by kernel_rfl))
              have k131 : a7.tmps.getD 131 undef = .bool true := FQ_at (.val (.bool true)) rfl (facts_to hf7 13 131 (by decide) (by kernel_rfl))
              have k132 : a7.tmps.getD 132 undef = .bool true := FQ_at (.val (.bool true)) rfl (facts_to hf7 14 132 (by decide) (by kernel_rfl))
              have k133 : a7.tmps.getD 133 undef = .slice (some ⟨b2, off2, none⟩) 1 cap5 := FQ_at (.val (.slice (some ⟨b2, off2, none⟩) 1 cap5)) rfl (facts_to hf7 15 133 (by decide) (by kernel_rfl))
              have k134 : a7.tmps.getD 134 undef = .pointer (some ⟨b2, off2, none⟩) := FQ_at (.val (.pointer (some ⟨b2, off2, none⟩))) rfl (facts_to hf7 16 134 (by decide) (by kernel_rfl))
              have k135 : a7.tmps.getD 135 undef = .pointer (some ⟨b2, off2 + 1, none⟩) := FQ_at (.val (.pointer (some ⟨b2, off2 + 1, none⟩))) rfl (facts_to hf7 17 135 (by decide) (by kernel_rfl))
              have k136 : a7.tmps.getD 136 undef = .string (decB u) := FQ_at (.val (.string (decB u))) rfl (facts_to hf7 18 136 (by decide) (by kernel_rfl))
              have k137 : a7.tmps.getD 137 undef = .agg #[.int .u8 1, .int .i64 n, .string ⟨#[]⟩, .slice none 0 0] := FQ_at (.val (.agg #[.int .u8 1, .int .i64 n, .string ⟨#[]⟩, .slice none 0 0])) rfl (facts_to hf7 19 137 (by decide) (by kernel_rfl))
              have k138 : a7.tmps.getD 138 undef = .string (decB u) := FQ_at (.val (.string (decB u))) rfl (facts_to hf7 20 138 (by decide) (by kernel_rfl))
              have k139 : a7.tmps.getD 139 undef = .bool true := FQ_at (.val (.bool true)) rfl (facts_to hf7 21 139 (by decide) (by kernel_rfl))
              have k140 : a7.tmps.getD 140 undef = .bool true := FQ_at (.val (.bool true)) rfl (facts_to hf7 22 140 (by decide) (by kernel_rfl))
              have hE7 := slots_all a7.tmps 141 (hs7.trans rfl)
              simp only [List.range, List.range.loop, List.map, k118, k119, k120, k121, k122, k123, k124, k125, k126, k127, k128, k129, k130, k131, k132, k133, k134, k135, k136, k137, k138, k139, k140, ho7 0 (by kernel_rfl), ho7 1 (by kernel_rfl), ho7 2 (by kernel_rfl), ho7 3 (by kernel_rfl), ho7 4 (by kernel_rfl), ho7 5 (by kernel_rfl), ho7 6 (by kernel_rfl), ho7 7 (by kernel_rfl), ho7 8 (by kernel_rfl), ho7 9 (by kernel_rfl), ho7 10 (by kernel_rfl), ho7 11 (by kernel_rfl), ho7 12 (by kernel_rfl), ho7 13 (by kernel_rfl), ho7 14 (by kernel_rfl), ho7 15 (by kernel_rfl), ho7 16 (by kernel_rfl), ho7 17 (by kernel_rfl), ho7 18 (by kernel_rfl), ho7 19 (by kernel_rfl), ho7 20 (by kernel_rfl), ho7 21 (by kernel_rfl), ho7 22 (by kernel_rfl), ho7 23 (by kernel_rfl), ho7 24 (by kernel_rfl), ho7 25 (by kernel_rfl), ho7 26 (by kernel_rfl), ho7 27 (by kernel_rfl), ho7 28 (by kernel_rfl), ho7 29 (by kernel_rfl), ho7 30 (by kernel_rfl), ho7 31 (by kernel_rfl), ho7 32 (by kernel_rfl), ho7 33 (by kernel_rfl), ho7 34 (by kernel_rfl), ho7 35 (by kernel_rfl), ho7 36 (by kernel_rfl), ho7 37 (by kernel_rfl), ho7 38 (by kernel_rfl), ho7 39 (by kernel_rfl), ho7 40 (by kernel_rfl), ho7 41 (by kernel_rfl), ho7 42 (by kernel_rfl), ho7 43 (by kernel_rfl), ho7 44 (by kernel_rfl), ho7 45 (by kernel_rfl), ho7 46 (by kernel_rfl), ho7 47 (by kernel_rfl), ho7 48 (by kernel_rfl), ho7 49 (by kernel_rfl), ho7 50 (by kernel_rfl), ho7 51 (by kernel_rfl), ho7 52 (by kernel_rfl), ho7 53 (by kernel_rfl), ho7 54 (by kernel_rfl), ho7 55 (by kernel_rfl), ho7 56 (by kernel_rfl), ho7 57 (by kernel_rfl), ho7 58 (by kernel_rfl), ho7 59 (by kernel_rfl), ho7 60 (by kernel_rfl), ho7 61 (by kernel_rfl), ho7 62 (by kernel_rfl), ho7 63 (by kernel_rfl), ho7 64 (by kernel_rfl), ho7 65 (by kernel_rfl), ho7 66 (by kernel_rfl), ho7 67 (by kernel_rfl), ho7 68 (by kernel_rfl), ho7 69 (by kernel_rfl), ho7 70 (by kernel_rfl), ho7 71 (by kernel_rfl), ho7 72 (by kernel_rfl), ho7 73 (by kernel_rfl), ho7 74 (by kernel_rfl), ho7 75 (by kernel_rfl), ho7 76 (by kernel_rfl), ho7 77 (by kernel_rfl), ho7 78 (by kernel_rfl), ho7 79 (by kernel_rfl), ho7 80 (by kernel_rfl), ho7 81 (by kernel_rfl), ho7 82 (by kernel_rfl), ho7 83 (by kernel_rfl), ho7 84 (by kernel_rfl), ho7 85 (by kernel_rfl), ho7 86 (by kernel_rfl), ho7 87 (by kernel_rfl), ho7 88 (by kernel_rfl), ho7 89 (by kernel_rfl), ho7 90 (by kernel_rfl), ho7 91 (by kernel_rfl), ho7 92 (by kernel_rfl), ho7 93 (by kernel_rfl), ho7 94 (by kernel_rfl), ho7 95 (by kernel_rfl), ho7 96 (by kernel_rfl), ho7 97 (by kernel_rfl), ho7 98 (by kernel_rfl), ho7 99 (by kernel_rfl), ho7 100 (by kernel_rfl), ho7 101 (by kernel_rfl), ho7 102 (by kernel_rfl), ho7 103 (by kernel_rfl), ho7 104 (by kernel_rfl), ho7 105 (by kernel_rfl), ho7 106 (by kernel_rfl), ho7 107 (by kernel_rfl), ho7 108 (by kernel_rfl), ho7 109 (by kernel_rfl), ho7 110 (by kernel_rfl), ho7 111 (by kernel_rfl), ho7 112 (by kernel_rfl), ho7 113 (by kernel_rfl), ho7 114 (by kernel_rfl), ho7 115 (by kernel_rfl), ho7 116 (by kernel_rfl), ho7 117 (by kernel_rfl)] at hE7
              obtain ⟨T7, D7⟩ := a7
              simp only at hE7 hd7
              subst hd7 hE7
              have HB7 := Lib.hid (HB4.out.trans (hb7.mono HB4.out.size))
              clear k118 k119 k120 k121 k122 k123 k124 k125 k126 k127 k128 k129 k130 k131 k132 k133 k134 k135 k136 k137 k138 k139 k140 hf7 hs7 ho7 hb7
              simp only [List.drop_succ_cons, List.drop_zero]
              go_wp2_with fail
              go_ret
              exact ⟨rfl, HB7.out⟩
        · have hVa := (symbol_only hSy).1
          have hK : wordK s = 1 := by unfold wordK; rw [hNo, hSy, hVa]; rfl
          rw [hK] at hall
          rw [hall] at hV
          obtain ⟨p1, cap1, rfl, hc1⟩ := hV
          obtain ⟨b, off, rfl, hlb, hc1⟩ := hc1 (by simp)
          obtain ⟨g0, g1, _⟩ := hc1 0 _ rfl
          simp only [Nat.zero_mul, Nat.add_zero] at g0 g1
          have g1' : W2.cell? ⟨b, off + 1, none⟩ = some (.string s) := g1
          have ns : (s.toList == s.toList) = true := by simp
          have HNT := hNT
          rw [hNo] at HNT
          rw [hSy] at HSY
          rw [hVa] at HVR
          clear hc1 hall herr hW hK hNo hSy hVa hNT
          as_aux_lemma =>
            go_wp2_with (first | (go_at_call 10; refine (HSY.out _).mono ?_; rintro e w2 ⟨rfl, rfl⟩) | (go_at_call 11; refine (HVR.out _).mono ?_; rintro e w2 ⟨rfl, rfl⟩))
            obtain ⟨X, hX⟩ : ∃ X, W2.heap.size = X := ⟨_, rfl⟩
            obtain ⟨W3, hW3⟩ : ∃ W3, W2.alloc (.cells #[.int .u8 1, .int .i64 n, .string ⟨#[]⟩, .slice none 0 0] 36) = W3 := ⟨_, rfl⟩
            have hx3 : W3.heap[X]? = some (.cells #[.int .u8 1, .int .i64 n, .string ⟨#[]⟩, .slice none 0 0] 36 (0, 0)) := by rw [← hW3, ← hX]; exact World.alloc_heap_new _ _
            have hB3 : Below w.heap.size w W3 := by rw [← hW3]; exact HB2.out.alloc HB2.out.size _
            have hXw : w.heap.size ≤ X := by rw [← hX]; exact HB2.out.size
            have y0 := cells_at hx3 0 _ rfl
            have y1 := cells_at hx3 1 _ rfl
            have y2 := cells_at hx3 2 _ rfl
            have y3 := cells_at hx3 3 _ rfl
            have HX3 := Lib.hid hx3
            have HB3 := Lib.hid hB3
            clear hx3 hB3
            first | rw [hW3] | skip
            go_wp2_with fail
            first | rw [hW3] | skip
            refine (HST.out W3 HB3.out).mono ?_
            rintro e W4 ⟨rfl, hB4⟩
            have HB4 := Lib.hid (HB3.out.trans (hB4.mono HB3.out.size))
            have HX4 := Lib.hid ((hB4.block X (Array.getElem?_eq_some_iff.1 HX3.out).1).trans HX3.out)
            clear hB4 y0 y1 y2 y3 HB3 HX3
            clear hW3
            rcases HCS.out with ⟨hv, hst⟩ | ⟨hv, hun, hn0, u, hu, hst⟩ | ⟨hv, hun, hn0, u, hu, hst⟩
            · rw [hst]
              rw [hv] at HVA
              go_wp2_with fail
              refine (lex_ok _ W4 (by decide) (HE.out.below HB4.out) empty_err).mono ?_
              rintro e W5 ⟨k5, rfl, hk5, hB5⟩
              have HB5 := Lib.hid (HB4.out.trans (hB5.mono HB4.out.size))
              have HX5 := Lib.hid ((hB5.block X (Array.getElem?_eq_some_iff.1 HX4.out).1).trans HX4.out)
              clear hB5 HB4 HX4
              rw [empty_all] at hk5
              obtain ⟨p5, cap5, rfl, _⟩ := hk5
              have y0 := cells_at HX5.out 0 _ rfl
              have y1 := cells_at HX5.out 1 _ rfl
              have y2 := cells_at HX5.out 2 _ rfl
              have y3 := cells_at HX5.out 3 _ rfl
              go_wp2_with fail
              refine (HVA.out W5 HB5.out).mono ?_
              rintro e W6 ⟨rfl, hB6⟩
              have HB6 := Lib.hid (HB5.out.trans (hB6.mono HB5.out.size))
              have HX6 := Lib.hid ((hB6.block X (Array.getElem?_eq_some_iff.1 HX5.out).1).trans HX5.out)
              clear y0 y1 y2 y3
              clear hB6 HB5 HX5
              go_wp2_with fail
              go_ret
              exact ⟨rfl, HB6.out⟩
            · rw [hst]
              rw [hv] at HVA
              obtain ⟨ty, tz, hall, herr, hty, htz⟩ := lex_neg hu
              have hdn : decide ((n : Int) < 0) = true := decide_eq_true hn0
              go_wp2_with fail
              refine (lex_ok _ W4 (by rw [negB_size]; have := dec_len hu; omega) (HE.out.below HB4.out) herr).mono ?_
              rintro e W5 ⟨k5, rfl, hk5, hB5⟩
              have HB5 := Lib.hid (HB4.out.trans (hB5.mono HB4.out.size))
              have HX5 := Lib.hid ((hB5.block X (Array.getElem?_eq_some_iff.1 HX4.out).1).trans HX4.out)
              clear hB5 HB4 HX4
              rw [hall] at hk5
              obtain ⟨p5, cap5, rfl, hc5⟩ := hk5
              obtain ⟨b2, off2, rfl, hlb2, hc5⟩ := hc5 (by simp)
              have q1 := (hc5 0 ty rfl).2.1
              have q3 := (hc5 1 tz rfl).1
              rw [hty] at q1
              rw [htz] at q3
              rw [Nat.zero_mul, Nat.add_zero] at q1
              rw [Nat.one_mul] at q3
              have y0 := cells_at HX5.out 0 _ rfl
              have y1 := cells_at HX5.out 1 _ rfl
              have y2 := cells_at HX5.out 2 _ rfl
              have y3 := cells_at HX5.out 3 _ rfl
              go_wp2_with fail
              refine (HVA.out W5 HB5.out).mono ?_
              rintro e W6 ⟨rfl, hB6⟩
              have HB6 := Lib.hid (HB5.out.trans (hB6.mono HB5.out.size))
              have HX6 := Lib.hid ((hB6.block X (Array.getElem?_eq_some_iff.1 HX5.out).1).trans HX5.out)
              clear y0 y1 y2 y3
              have q1 := (hB6.cell (p := ⟨b2, off2 + 1, none⟩) hlb2).trans q1
              have q3 := (hB6.cell (p := ⟨b2, off2 + 3, none⟩) hlb2).trans q3
              have e45 : ((⟨#[45]⟩ : ByteArray).toList == [45]) = true := by decide +kernel
              clear hB6 HB5 HX5 hc5 hst hall herr hty htz hun
              go_wp2_with fail
              go_ret
              exact ⟨rfl, HB6.out⟩
            · rw [hst]
              rw [hv] at HVA
              obtain ⟨hall, herr⟩ := lex_dec hu
              have hdn : decide ((n : Int) < 0) = false := decide_eq_false (by omega)
              go_wp2_with fail
              refine (lex_ok _ W4 (by rw [decB_size]; have := dec_len hu; omega) (HE.out.below HB4.out) herr).mono ?_
              rintro e W5 ⟨k5, rfl, hk5, hB5⟩
              have HB5 := Lib.hid (HB4.out.trans (hB5.mono HB4.out.size))
              have HX5 := Lib.hid ((hB5.block X (Array.getElem?_eq_some_iff.1 HX4.out).1).trans HX4.out)
              clear hB5 HB4 HX4
              rw [hall] at hk5
              obtain ⟨p5, cap5, rfl, hc5⟩ := hk5
              obtain ⟨b2, off2, rfl, hlb2, hc5⟩ := hc5 (by simp)
              obtain ⟨q0, q1, _⟩ := hc5 0 _ rfl
              simp only [Nat.zero_mul, Nat.add_zero] at q0 q1
              have y0 := cells_at HX5.out 0 _ rfl
              have y1 := cells_at HX5.out 1 _ rfl
              have y2 := cells_at HX5.out 2 _ rfl
              have y3 := cells_at HX5.out 3 _ rfl
              go_wp2_with fail
              refine (HVA.out W5 HB5.out).mono ?_
              rintro e W6 ⟨rfl, hB6⟩
              have HB6 := Lib.hid (HB5.out.trans (hB6.mono HB5.out.size))
              have HX6 := Lib.hid ((hB6.block X (Array.getElem?_eq_some_iff.1 HX5.out).1).trans HX5.out)
              clear y0 y1 y2 y3
              have q0 := (hB6.cell (p := ⟨b2, off2, none⟩) hlb2).trans q0
              have q1 := (hB6.cell (p := ⟨b2, off2 + 1, none⟩) hlb2).trans q1
              have hlb2 := Nat.lt_of_lt_of_le hlb2 hB6.size
              have y0 := cells_at HX6.out 0 _ rfl
              have y1 := cells_at HX6.out 1 _ rfl
              have y2 := cells_at HX6.out 2 _ rfl
              have y3 := cells_at HX6.out 3 _ rfl
              have hlx := (Array.getElem?_eq_some_iff.1 HX6.out).1
              have HS5 : Hid (∀ wx, Below W6.heap.size W6 wx → Calls Tryz.prog 12 #[.agg #[.int .u8 1, .int .i64 n, .string ⟨#[]⟩, .slice none 0 0]] wx fun e w' => e = .returned (.string (decB u)) ∧ Below wx.heap.size wx w') := Lib.hid (fun wx hwx => by
                rw [← hst]; exact HST.out wx (HB6.out.trans (hwx.mono HB6.out.size)))
              have HB4 := HB6
              have nd : ((decB u).toList == (decB u).toList) = true := by simp
              clear hB6 HB5 HX5 HB6 HX6 hc5 hall herr hst hun HST HVA HCS
              go_wp2_with fail
              refine wp_region_grow_tail (by kernel_rfl) 23 (FQ [ .val (.int .i64 0), .val (.bool true), .val (.bool true), .val (.slice (some ⟨b2, off2, none⟩) 1 cap5), .val (.int .i64 1), .val (.bool true), .val (.bool true), .val (.bool true), .val (.slice (some ⟨b2, off2, none⟩) 1 cap5), .val (.pointer (some ⟨b2, off2, none⟩)), .val (.pointer (some ⟨b2, off2, none⟩)), .val (.int .u8 3), .val (.bool true), .val (.bool true), .val (.bool true), .val (.slice (some ⟨b2, off2, none⟩) 1 cap5), .val (.pointer (some ⟨b2, off2, none⟩)), .val (.pointer (some ⟨b2, off2 + 1, none⟩)), .val (.string (decB u)), .val (.agg #[.int .u8 1, .int .i64 n, .string ⟨#[]⟩, .slice none 0 0]), .val (.string (decB u)), .val (.bool true), .val (.bool true)]) (FQ_grow _) (by kernel_rfl) (by kernel_rfl) (steps_to ?_) ?_
              · simp only [List.take_succ_cons, List.take_zero]
                refine ⟨?_, ?_, ?_, ?_, ?_, ?_, ?_, ?_, ?_, ?_, ?_, ?_, ?_, ?_, ?_, ?_, ?_, ?_, ?_, ?_, ?_, ?_, ?_, trivial⟩
                · intro a wx hb hd hs ho hp
                  refine ⟨rfl, ?_⟩
                  have h12 : a.tmps.getD 12 undef = _ := (ho 12 (by kernel_rfl)).trans rfl
                  unfold Oper.wp
                  go_simp
                  exact Stepped.at rfl hd (Below.refl _ _) (FQ_mk (.val (.int .i64 0)) rfl (by first | rfl | simp))
                · intro a wx hb hd hs ho hp
                  refine ⟨rfl, ?_⟩
                  have h118 : a.tmps.getD 118 undef = .int .i64 0 := qval_at hp 0 118 (by kernel_rfl) rfl
                  unfold Oper.wp
                  go_simp
                  exact Stepped.at rfl hd (Below.refl _ _) (FQ_mk (.val (.bool true)) rfl (by first | rfl | simp))
                · intro a wx hb hd hs ho hp
                  refine ⟨rfl, ?_⟩
                  have h119 : a.tmps.getD 119 undef = .bool true := qval_at hp 1 119 (by kernel_rfl) rfl
                  unfold Oper.wp
                  go_simp
                  exact Stepped.at rfl hd (Below.refl _ _) (FQ_mk (.val (.bool true)) rfl (by first | rfl | simp))
                · intro a wx hb hd hs ho hp
                  refine ⟨wanted_true rfl (yielded_at (k := 2) (d := 120) (by kernel_rfl) (qval_at hp 2 120 (by kernel_rfl) rfl)), ?_⟩
                  have h10 : a.tmps.getD 10 undef = _ := (ho 10 (by kernel_rfl)).trans rfl
                  unfold Oper.wp
                  go_simp
                  exact Stepped.at rfl hd (Below.refl _ _) (FQ_mk (.val (.slice (some ⟨b2, off2, none⟩) 1 cap5)) rfl (by first | rfl | simp))
                · intro a wx hb hd hs ho hp
                  refine ⟨wanted_true rfl (yielded_at (k := 2) (d := 120) (by kernel_rfl) (qval_at hp 2 120 (by kernel_rfl) rfl)), ?_⟩
                  have h121 : a.tmps.getD 121 undef = .slice (some ⟨b2, off2, none⟩) 1 cap5 := qval_at hp 3 121 (by kernel_rfl) rfl
                  unfold Oper.wp
                  go_simp
                  exact Stepped.at rfl hd (Below.refl _ _) (FQ_mk (.val (.int .i64 1)) rfl (by first | rfl | simp))
                · intro a wx hb hd hs ho hp
                  refine ⟨wanted_true rfl (yielded_at (k := 2) (d := 120) (by kernel_rfl) (qval_at hp 2 120 (by kernel_rfl) rfl)), ?_⟩
                  have h122 : a.tmps.getD 122 undef = .int .i64 1 := qval_at hp 4 122 (by kernel_rfl) rfl
                  unfold Oper.wp
                  go_simp
                  exact Stepped.at rfl hd (Below.refl _ _) (FQ_mk (.val (.bool true)) rfl (by first | rfl | simp))
                · intro a wx hb hd hs ho hp
                  refine ⟨rfl, ?_⟩
                  have h120 : a.tmps.getD 120 undef = .bool true := qval_at hp 2 120 (by kernel_rfl) rfl
                  have h123 : a.tmps.getD 123 undef = .bool true := qval_at hp 5 123 (by kernel_rfl) rfl
                  unfold Oper.wp
                  go_simp
                  exact Stepped.at rfl hd (Below.refl _ _) (FQ_mk (.val (.bool true)) rfl (by first | rfl | simp))
                · intro a wx hb hd hs ho hp
                  refine ⟨rfl, ?_⟩
                  have h124 : a.tmps.getD 124 undef = .bool true := qval_at hp 6 124 (by kernel_rfl) rfl
                  unfold Oper.wp
                  go_simp
                  exact Stepped.at rfl hd (Below.refl _ _) (FQ_mk (.val (.bool true)) rfl (by first | rfl | simp))
                · intro a wx hb hd hs ho hp
                  refine ⟨wanted_true rfl (yielded_at (k := 7) (d := 125) (by kernel_rfl) (qval_at hp 7 125 (by kernel_rfl) rfl)), ?_⟩
                  have h10 : a.tmps.getD 10 undef = _ := (ho 10 (by kernel_rfl)).trans rfl
                  unfold Oper.wp
                  go_simp
                  exact Stepped.at rfl hd (Below.refl _ _) (FQ_mk (.val (.slice (some ⟨b2, off2, none⟩) 1 cap5)) rfl (by first | rfl | simp))
                · intro a wx hb hd hs ho hp
                  refine ⟨wanted_true rfl (yielded_at (k := 7) (d := 125) (by kernel_rfl) (qval_at hp 7 125 (by kernel_rfl) rfl)), ?_⟩
                  have h126 : a.tmps.getD 126 undef = .slice (some ⟨b2, off2, none⟩) 1 cap5 := qval_at hp 8 126 (by kernel_rfl) rfl
                  unfold Oper.wp
                  go_simp
                  exact Stepped.at rfl hd (Below.refl _ _) (FQ_mk (.val (.pointer (some ⟨b2, off2, none⟩))) rfl (by first | rfl | simp))
                · intro a wx hb hd hs ho hp
                  refine ⟨wanted_true rfl (yielded_at (k := 7) (d := 125) (by kernel_rfl) (qval_at hp 7 125 (by kernel_rfl) rfl)), ?_⟩
                  have h127 : a.tmps.getD 127 undef = .pointer (some ⟨b2, off2, none⟩) := qval_at hp 9 127 (by kernel_rfl) rfl
                  unfold Oper.wp
                  go_simp
                  exact Stepped.at rfl hd (Below.refl _ _) (FQ_mk (.val (.pointer (some ⟨b2, off2, none⟩))) rfl (by first | rfl | simp))
                · intro a wx hb hd hs ho hp
                  refine ⟨wanted_true rfl (yielded_at (k := 7) (d := 125) (by kernel_rfl) (qval_at hp 7 125 (by kernel_rfl) rfl)), ?_⟩
                  have h128 : a.tmps.getD 128 undef = .pointer (some ⟨b2, off2, none⟩) := qval_at hp 10 128 (by kernel_rfl) rfl
                  have x0 := (hb.cell (p := ⟨b2, off2, none⟩) hlb2).trans q0
                  unfold Oper.wp
                  go_simp
                  exact Stepped.at rfl hd (Below.refl _ _) (FQ_mk (.val (.int .u8 3)) rfl rfl)
                · intro a wx hb hd hs ho hp
                  refine ⟨wanted_true rfl (yielded_at (k := 7) (d := 125) (by kernel_rfl) (qval_at hp 7 125 (by kernel_rfl) rfl)), ?_⟩
                  have h129 : a.tmps.getD 129 undef = .int .u8 3 := qval_at hp 11 129 (by kernel_rfl) rfl
                  unfold Oper.wp
                  go_simp
                  exact Stepped.at rfl hd (Below.refl _ _) (FQ_mk (.val (.bool true)) rfl (by first | rfl | simp))
                · intro a wx hb hd hs ho hp
                  refine ⟨rfl, ?_⟩
                  have h125 : a.tmps.getD 125 undef = .bool true := qval_at hp 7 125 (by kernel_rfl) rfl
                  have h130 : a.tmps.getD 130 undef = .bool true := qval_at hp 12 130 (by kernel_rfl) rfl
                  unfold Oper.wp
                  go_simp
                  exact Stepped.at rfl hd (Below.refl _ _) (FQ_mk (.val (.bool true)) rfl (by first | rfl | simp))
                · intro a wx hb hd hs ho hp
                  refine ⟨rfl, ?_⟩
                  have h131 : a.tmps.getD 131 undef = .bool true := qval_at hp 13 131 (by kernel_rfl) rfl
                  unfold Oper.wp
                  go_simp
                  exact Stepped.at rfl hd (Below.refl _ _) (FQ_mk (.val (.bool true)) rfl (by first | rfl | simp))
                · intro a wx hb hd hs ho hp
                  refine ⟨wanted_true rfl (yielded_at (k := 14) (d := 132) (by kernel_rfl) (qval_at hp 14 132 (by kernel_rfl) rfl)), ?_⟩
                  have h10 : a.tmps.getD 10 undef = _ := (ho 10 (by kernel_rfl)).trans rfl
                  unfold Oper.wp
                  go_simp
                  exact Stepped.at rfl hd (Below.refl _ _) (FQ_mk (.val (.slice (some ⟨b2, off2, none⟩) 1 cap5)) rfl (by first | rfl | simp))
                · intro a wx hb hd hs ho hp
                  refine ⟨wanted_true rfl (yielded_at (k := 14) (d := 132) (by kernel_rfl) (qval_at hp 14 132 (by kernel_rfl) rfl)), ?_⟩
                  have h133 : a.tmps.getD 133 undef = .slice (some ⟨b2, off2, none⟩) 1 cap5 := qval_at hp 15 133 (by kernel_rfl) rfl
                  unfold Oper.wp
                  go_simp
                  exact Stepped.at rfl hd (Below.refl _ _) (FQ_mk (.val (.pointer (some ⟨b2, off2, none⟩))) rfl (by first | rfl | simp))
                · intro a wx hb hd hs ho hp
                  refine ⟨wanted_true rfl (yielded_at (k := 14) (d := 132) (by kernel_rfl) (qval_at hp 14 132 (by kernel_rfl) rfl)), ?_⟩
                  have h134 : a.tmps.getD 134 undef = .pointer (some ⟨b2, off2, none⟩) := qval_at hp 16 134 (by kernel_rfl) rfl
                  unfold Oper.wp
                  go_simp
                  exact Stepped.at rfl hd (Below.refl _ _) (FQ_mk (.val (.pointer (some ⟨b2, off2 + 1, none⟩))) rfl (by first | rfl | simp))
                · intro a wx hb hd hs ho hp
                  refine ⟨wanted_true rfl (yielded_at (k := 14) (d := 132) (by kernel_rfl) (qval_at hp 14 132 (by kernel_rfl) rfl)), ?_⟩
                  have h135 : a.tmps.getD 135 undef = .pointer (some ⟨b2, off2 + 1, none⟩) := qval_at hp 17 135 (by kernel_rfl) rfl
                  have x0 := (hb.cell (p := ⟨b2, off2 + 1, none⟩) hlb2).trans q1
                  unfold Oper.wp
                  go_simp
                  exact Stepped.at rfl hd (Below.refl _ _) (FQ_mk (.val (.string (decB u))) rfl rfl)
                · intro a wx hb hd hs ho hp
                  refine ⟨wanted_true rfl (yielded_at (k := 14) (d := 132) (by kernel_rfl) (qval_at hp 14 132 (by kernel_rfl) rfl)), ?_⟩
                  have h9 : a.tmps.getD 9 undef = _ := (ho 9 (by kernel_rfl)).trans rfl
                  have x0 := (hb.cell (p := ⟨X, 0, none⟩) hlx).trans y0
                  have x1 := (hb.cell (p := ⟨X, 1, none⟩) hlx).trans y1
                  have x2 := (hb.cell (p := ⟨X, 2, none⟩) hlx).trans y2
                  have x3 := (hb.cell (p := ⟨X, 3, none⟩) hlx).trans y3
                  unfold Oper.wp
                  go_simp
                  exact Stepped.at rfl hd (Below.refl _ _) (FQ_mk (.val (.agg #[.int .u8 1, .int .i64 n, .string ⟨#[]⟩, .slice none 0 0])) rfl rfl)
                · intro a wx hb hd hs ho hp
                  refine ⟨wanted_true rfl (yielded_at (k := 14) (d := 132) (by kernel_rfl) (qval_at hp 14 132 (by kernel_rfl) rfl)), ?_⟩
                  have h137 : a.tmps.getD 137 undef = .agg #[.int .u8 1, .int .i64 n, .string ⟨#[]⟩, .slice none 0 0] := qval_at hp 19 137 (by kernel_rfl) rfl
                  unfold Oper.wp
                  go_simp
                  refine ((HS5.out wx hb)).mono ?_
                  rintro e w2 ⟨rfl, hb2⟩
                  exact Stepped.at rfl hd hb2 (FQ_mk (.val (.string (decB u))) rfl rfl)
                · intro a wx hb hd hs ho hp
                  refine ⟨wanted_true rfl (yielded_at (k := 14) (d := 132) (by kernel_rfl) (qval_at hp 14 132 (by kernel_rfl) rfl)), ?_⟩
                  have h136 : a.tmps.getD 136 undef = .string (decB u) := qval_at hp 18 136 (by kernel_rfl) rfl
                  have h138 : a.tmps.getD 138 undef = .string (decB u) := qval_at hp 20 138 (by kernel_rfl) rfl
                  unfold Oper.wp
                  go_simp
                  exact Stepped.at rfl hd (Below.refl _ _) (FQ_mk (.val (.bool true)) rfl (by first | rfl | simp))
                · intro a wx hb hd hs ho hp
                  refine ⟨rfl, ?_⟩
                  have h132 : a.tmps.getD 132 undef = .bool true := qval_at hp 14 132 (by kernel_rfl) rfl
                  have h139 : a.tmps.getD 139 undef = .bool true := qval_at hp 21 139 (by kernel_rfl) rfl
                  unfold Oper.wp
                  go_simp
                  exact Stepped.at rfl hd (Below.refl _ _) (FQ_mk (.val (.bool true)) rfl (by first | rfl | simp))
              intro a7 w7 hb7 hd7 hs7 ho7 hf7
              have k118 : a7.tmps.getD 118 undef = .int .i64 0 := FQ_at (.val (.int .i64 0)) rfl (facts_to hf7 0 118 (by decide) (by kernel_rfl))
              have k119 : a7.tmps.getD 119 undef = .bool true := FQ_at (.val (.bool true)) rfl (facts_to hf7 1 119 (by decide) (by kernel_rfl))
              have k120 : a7.tmps.getD 120 undef = .bool true := FQ_at (.val (.bool true)) rfl (facts_to hf7 2 120 (by decide) (by kernel_rfl))
              have k121 : a7.tmps.getD 121 undef = .slice (some ⟨b2, off2, none⟩) 1 cap5 := FQ_at (.val (.slice (some ⟨b2, off2, none⟩) 1 cap5)) rfl (facts_to hf7 3 121 (by decide) (by kernel_rfl))
              have k122 : a7.tmps.getD 122 undef = .int .i64 1 := FQ_at (.val (.int .i64 1)) rfl (facts_to hf7 4 122 (by decide) (by kernel_rfl))
              have k123 : a7.tmps.getD 123 undef = .bool true := FQ_at (.val (.bool true)) rfl (facts_to hf7 5 123 (by decide) (by kernel_rfl))
              have k124 : a7.tmps.getD 124 undef = .bool true := FQ_at (.val (.bool true)) rfl (facts_to hf7 6 124 (by decide) (by kernel_rfl))
              have k125 : a7.tmps.getD 125 undef = .bool true := FQ_at (.val (.bool true)) rfl (facts_to hf7 7 125 (by decide) (by kernel_rfl))
              have k126 : a7.tmps.getD 126 undef = .slice (some ⟨b2, off2, none⟩) 1 cap5 := FQ_at (.val (.slice (some ⟨b2, off2, none⟩) 1 cap5)) rfl (facts_to hf7 8 126 (by decide) (by kernel_rfl))
              have k127 : a7.tmps.getD 127 undef = .pointer (some ⟨b2, off2, none⟩) := FQ_at (.val (.pointer (some ⟨b2, off2, none⟩))) rfl (facts_to hf7 9 127 (by decide) (by kernel_rfl))
              have k128 : a7.tmps.getD 128 undef = .pointer (some ⟨b2, off2, none⟩) := FQ_at (.val (.pointer (some ⟨b2, off2, none⟩))) rfl (facts_to hf7 10 128 (by decide) (by kernel_rfl))
              have k129 : a7.tmps.getD 129 undef = .int .u8 3 := FQ_at (.val (.int .u8 3)) rfl (facts_to hf7 11 129 (by decide) (by kernel_rfl))
              have k130 : a7.tmps.getD 130 undef = .bool true := FQ_at (.val (.bool true)) rfl (facts_to hf7 12 130 (by decide) (by kernel_rfl))
              have k131 : a7.tmps.getD 131 undef = .bool true := FQ_at (.val (.bool true)) rfl (facts_to hf7 13 131 (by decide) (by kernel_rfl))
              have k132 : a7.tmps.getD 132 undef = .bool true := FQ_at (.val (.bool true)) rfl (facts_to hf7 14 132 (by decide) (by kernel_rfl))
              have k133 : a7.tmps.getD 133 undef = .slice (some ⟨b2, off2, none⟩) 1 cap5 := FQ_at (.val (.slice (some ⟨b2, off2, none⟩) 1 cap5)) rfl (facts_to hf7 15 133 (by decide) (by kernel_rfl))
              have k134 : a7.tmps.getD 134 undef = .pointer (some ⟨b2, off2, none⟩) := FQ_at (.val (.pointer (some ⟨b2, off2, none⟩))) rfl (facts_to hf7 16 134 (by decide) (by kernel_rfl))
              have k135 : a7.tmps.getD 135 undef = .pointer (some ⟨b2, off2 + 1, none⟩) := FQ_at (.val (.pointer (some ⟨b2, off2 + 1, none⟩))) rfl (facts_to hf7 17 135 (by decide) (by kernel_rfl))
              have k136 : a7.tmps.getD 136 undef = .string (decB u) := FQ_at (.val (.string (decB u))) rfl (facts_to hf7 18 136 (by decide) (by kernel_rfl))
              have k137 : a7.tmps.getD 137 undef = .agg #[.int .u8 1, .int .i64 n, .string ⟨#[]⟩, .slice none 0 0] := FQ_at (.val (.agg #[.int .u8 1, .int .i64 n, .string ⟨#[]⟩, .slice none 0 0])) rfl (facts_to hf7 19 137 (by decide) (by kernel_rfl))
              have k138 : a7.tmps.getD 138 undef = .string (decB u) := FQ_at (.val (.string (decB u))) rfl (facts_to hf7 20 138 (by decide) (by kernel_rfl))
              have k139 : a7.tmps.getD 139 undef = .bool true := FQ_at (.val (.bool true)) rfl (facts_to hf7 21 139 (by decide) (by kernel_rfl))
              have k140 : a7.tmps.getD 140 undef = .bool true := FQ_at (.val (.bool true)) rfl (facts_to hf7 22 140 (by decide) (by kernel_rfl))
              have hE7 := slots_all a7.tmps 141 (hs7.trans rfl)
              simp only [List.range, List.range.loop, List.map, k118, k119, k120, k121, k122, k123, k124, k125, k126, k127, k128, k129, k130, k131, k132, k133, k134, k135, k136, k137, k138, k139, k140, ho7 0 (by kernel_rfl), ho7 1 (by kernel_rfl), ho7 2 (by kernel_rfl), ho7 3 (by kernel_rfl), ho7 4 (by kernel_rfl), ho7 5 (by kernel_rfl), ho7 6 (by kernel_rfl), ho7 7 (by kernel_rfl), ho7 8 (by kernel_rfl), ho7 9 (by kernel_rfl), ho7 10 (by kernel_rfl), ho7 11 (by kernel_rfl), ho7 12 (by kernel_rfl), ho7 13 (by kernel_rfl), ho7 14 (by kernel_rfl), ho7 15 (by kernel_rfl), ho7 16 (by kernel_rfl), ho7 17 (by kernel_rfl), ho7 18 (by kernel_rfl), ho7 19 (by kernel_rfl), ho7 20 (by kernel_rfl), ho7 21 (by kernel_rfl), ho7 22 (by kernel_rfl), ho7 23 (by kernel_rfl), ho7 24 (by kernel_rfl), ho7 25 (by kernel_rfl), ho7 26 (by kernel_rfl), ho7 27 (by kernel_rfl), ho7 28 (by kernel_rfl), ho7 29 (by kernel_rfl), ho7 30 (by kernel_rfl), ho7 31 (by kernel_rfl), ho7 32 (by kernel_rfl), ho7 33 (by kernel_rfl), ho7 34 (by kernel_rfl), ho7 35 (by kernel_rfl), ho7 36 (by kernel_rfl), ho7 37 (by kernel_rfl), ho7 38 (by kernel_rfl), ho7 39 (by kernel_rfl), ho7 40 (by kernel_rfl), ho7 41 (by kernel_rfl), ho7 42 (by kernel_rfl), ho7 43 (by kernel_rfl), ho7 44 (by kernel_rfl), ho7 45 (by kernel_rfl), ho7 46 (by kernel_rfl), ho7 47 (by kernel_rfl), ho7 48 (by kernel_rfl), ho7 49 (by kernel_rfl), ho7 50 (by kernel_rfl), ho7 51 (by kernel_rfl), ho7 52 (by kernel_rfl), ho7 53 (by kernel_rfl), ho7 54 (by kernel_rfl), ho7 55 (by kernel_rfl), ho7 56 (by kernel_rfl), ho7 57 (by kernel_rfl), ho7 58 (by kernel_rfl), ho7 59 (by kernel_rfl), ho7 60 (by kernel_rfl), ho7 61 (by kernel_rfl), ho7 62 (by kernel_rfl), ho7 63 (by kernel_rfl), ho7 64 (by kernel_rfl), ho7 65 (by kernel_rfl), ho7 66 (by kernel_rfl), ho7 67 (by kernel_rfl), ho7 68 (by kernel_rfl), ho7 69 (by kernel_rfl), ho7 70 (by kernel_rfl), ho7 71 (by kernel_rfl), ho7 72 (by kernel_rfl), ho7 73 (by kernel_rfl), ho7 74 (by kernel_rfl), ho7 75 (by kernel_rfl), ho7 76 (by kernel_rfl), ho7 77 (by kernel_rfl), ho7 78 (by kernel_rfl), ho7 79 (by kernel_rfl), ho7 80 (by kernel_rfl), ho7 81 (by kernel_rfl), ho7 82 (by kernel_rfl), ho7 83 (by kernel_rfl), ho7 84 (by kernel_rfl), ho7 85 (by kernel_rfl), ho7 86 (by kernel_rfl), ho7 87 (by kernel_rfl), ho7 88 (by kernel_rfl), ho7 89 (by kernel_rfl), ho7 90 (by kernel_rfl), ho7 91 (by kernel_rfl), ho7 92 (by kernel_rfl), ho7 93 (by kernel_rfl), ho7 94 (by kernel_rfl), ho7 95 (by kernel_rfl), ho7 96 (by kernel_rfl), ho7 97 (by kernel_rfl), ho7 98 (by kernel_rfl), ho7 99 (by kernel_rfl), ho7 100 (by kernel_rfl), ho7 101 (by kernel_rfl), ho7 102 (by kernel_rfl), ho7 103 (by kernel_rfl), ho7 104 (by kernel_rfl), ho7 105 (by kernel_rfl), ho7 106 (by kernel_rfl), ho7 107 (by kernel_rfl), ho7 108 (by kernel_rfl), ho7 109 (by kernel_rfl), ho7 110 (by kernel_rfl), ho7 111 (by kernel_rfl), ho7 112 (by kernel_rfl), ho7 113 (by kernel_rfl), ho7 114 (by kernel_rfl), ho7 115 (by kernel_rfl), ho7 116 (by kernel_rfl), ho7 117 (by kernel_rfl)] at hE7
              obtain ⟨T7, D7⟩ := a7
              simp only at hE7 hd7
              subst hd7 hE7
              have HB7 := Lib.hid (HB4.out.trans (hb7.mono HB4.out.size))
              clear k118 k119 k120 k121 k122 k123 k124 k125 k126 k127 k128 k129 k130 k131 k132 k133 k134 k135 k136 k137 k138 k139 k140 hf7 hs7 ho7 hb7
              simp only [List.drop_succ_cons, List.drop_zero]
              go_wp2_with fail
              go_ret
              exact ⟨rfl, HB7.out⟩
      · have hSy := (not_only hNo).1
        have hVa := (not_only hNo).2
        have hK : wordK s = 4 := by unfold wordK; rw [hNo, hSy, hVa]; rfl
        rw [hK] at hall
        rw [hall] at hV
        obtain ⟨p1, cap1, rfl, hc1⟩ := hV
        obtain ⟨b, off, rfl, hlb, hc1⟩ := hc1 (by simp)
        obtain ⟨g0, g1, _⟩ := hc1 0 _ rfl
        simp only [Nat.zero_mul, Nat.add_zero] at g0 g1
        have g1' : W2.cell? ⟨b, off + 1, none⟩ = some (.string s) := g1
        have ns : (s.toList == s.toList) = true := by simp
        have HNT := hNT
        rw [hNo] at HNT
        rw [hSy] at HSY
        rw [hVa] at HVR
        clear hc1 hall herr hW hK hNo hSy hVa hNT
        as_aux_lemma =>
          go_wp2_with (first | (go_at_call 10; refine (HSY.out _).mono ?_; rintro e w2 ⟨rfl, rfl⟩) | (go_at_call 11; refine (HVR.out _).mono ?_; rintro e w2 ⟨rfl, rfl⟩))
          obtain ⟨X, hX⟩ : ∃ X, W2.heap.size = X := ⟨_, rfl⟩
          obtain ⟨W3, hW3⟩ : ∃ W3, W2.alloc (.cells #[.int .u8 1, .int .i64 n, .string ⟨#[]⟩, .slice none 0 0] 36) = W3 := ⟨_, rfl⟩
          have hx3 : W3.heap[X]? = some (.cells #[.int .u8 1, .int .i64 n, .string ⟨#[]⟩, .slice none 0 0] 36 (0, 0)) := by rw [← hW3, ← hX]; exact World.alloc_heap_new _ _
          have hB3 : Below w.heap.size w W3 := by rw [← hW3]; exact HB2.out.alloc HB2.out.size _
          have hXw : w.heap.size ≤ X := by rw [← hX]; exact HB2.out.size
          have y0 := cells_at hx3 0 _ rfl
          have y1 := cells_at hx3 1 _ rfl
          have y2 := cells_at hx3 2 _ rfl
          have y3 := cells_at hx3 3 _ rfl
          have HX3 := Lib.hid hx3
          have HB3 := Lib.hid hB3
          clear hx3 hB3
          first | rw [hW3] | skip
          go_wp2_with fail
          first | rw [hW3] | skip
          refine (HST.out W3 HB3.out).mono ?_
          rintro e W4 ⟨rfl, hB4⟩
          have HB4 := Lib.hid (HB3.out.trans (hB4.mono HB3.out.size))
          have HX4 := Lib.hid ((hB4.block X (Array.getElem?_eq_some_iff.1 HX3.out).1).trans HX3.out)
          clear hB4 y0 y1 y2 y3 HB3 HX3
          clear hW3
          rcases HCS.out with ⟨hv, hst⟩ | ⟨hv, hun, hn0, u, hu, hst⟩ | ⟨hv, hun, hn0, u, hu, hst⟩
          · rw [hst]
            rw [hv] at HVA
            go_wp2_with fail
            refine (lex_ok _ W4 (by decide) (HE.out.below HB4.out) empty_err).mono ?_
            rintro e W5 ⟨k5, rfl, hk5, hB5⟩
            have HB5 := Lib.hid (HB4.out.trans (hB5.mono HB4.out.size))
            have HX5 := Lib.hid ((hB5.block X (Array.getElem?_eq_some_iff.1 HX4.out).1).trans HX4.out)
            clear hB5 HB4 HX4
            rw [empty_all] at hk5
            obtain ⟨p5, cap5, rfl, _⟩ := hk5
            have y0 := cells_at HX5.out 0 _ rfl
            have y1 := cells_at HX5.out 1 _ rfl
            have y2 := cells_at HX5.out 2 _ rfl
            have y3 := cells_at HX5.out 3 _ rfl
            go_wp2_with fail
            refine (HVA.out W5 HB5.out).mono ?_
            rintro e W6 ⟨rfl, hB6⟩
            have HB6 := Lib.hid (HB5.out.trans (hB6.mono HB5.out.size))
            have HX6 := Lib.hid ((hB6.block X (Array.getElem?_eq_some_iff.1 HX5.out).1).trans HX5.out)
            clear y0 y1 y2 y3
            clear hB6 HB5 HX5
            go_wp2_with fail
            go_ret
            exact ⟨rfl, HB6.out⟩
          · rw [hst]
            rw [hv] at HVA
            obtain ⟨ty, tz, hall, herr, hty, htz⟩ := lex_neg hu
            have hdn : decide ((n : Int) < 0) = true := decide_eq_true hn0
            go_wp2_with fail
            refine (lex_ok _ W4 (by rw [negB_size]; have := dec_len hu; omega) (HE.out.below HB4.out) herr).mono ?_
            rintro e W5 ⟨k5, rfl, hk5, hB5⟩
            have HB5 := Lib.hid (HB4.out.trans (hB5.mono HB4.out.size))
            have HX5 := Lib.hid ((hB5.block X (Array.getElem?_eq_some_iff.1 HX4.out).1).trans HX4.out)
            clear hB5 HB4 HX4
            rw [hall] at hk5
            obtain ⟨p5, cap5, rfl, hc5⟩ := hk5
            obtain ⟨b2, off2, rfl, hlb2, hc5⟩ := hc5 (by simp)
            have q1 := (hc5 0 ty rfl).2.1
            have q3 := (hc5 1 tz rfl).1
            rw [hty] at q1
            rw [htz] at q3
            rw [Nat.zero_mul, Nat.add_zero] at q1
            rw [Nat.one_mul] at q3
            have y0 := cells_at HX5.out 0 _ rfl
            have y1 := cells_at HX5.out 1 _ rfl
            have y2 := cells_at HX5.out 2 _ rfl
            have y3 := cells_at HX5.out 3 _ rfl
            go_wp2_with fail
            refine (HVA.out W5 HB5.out).mono ?_
            rintro e W6 ⟨rfl, hB6⟩
            have HB6 := Lib.hid (HB5.out.trans (hB6.mono HB5.out.size))
            have HX6 := Lib.hid ((hB6.block X (Array.getElem?_eq_some_iff.1 HX5.out).1).trans HX5.out)
            clear y0 y1 y2 y3
            have q1 := (hB6.cell (p := ⟨b2, off2 + 1, none⟩) hlb2).trans q1
            have q3 := (hB6.cell (p := ⟨b2, off2 + 3, none⟩) hlb2).trans q3
            have e45 : ((⟨#[45]⟩ : ByteArray).toList == [45]) = true := by decide +kernel
            clear hB6 HB5 HX5 hc5 hst hall herr hty htz hun
            go_wp2_with fail
            go_ret
            exact ⟨rfl, HB6.out⟩
          · rw [hst]
            rw [hv] at HVA
            obtain ⟨hall, herr⟩ := lex_dec hu
            have hdn : decide ((n : Int) < 0) = false := decide_eq_false (by omega)
            go_wp2_with fail
            refine (lex_ok _ W4 (by rw [decB_size]; have := dec_len hu; omega) (HE.out.below HB4.out) herr).mono ?_
            rintro e W5 ⟨k5, rfl, hk5, hB5⟩
            have HB5 := Lib.hid (HB4.out.trans (hB5.mono HB4.out.size))
            have HX5 := Lib.hid ((hB5.block X (Array.getElem?_eq_some_iff.1 HX4.out).1).trans HX4.out)
            clear hB5 HB4 HX4
            rw [hall] at hk5
            obtain ⟨p5, cap5, rfl, hc5⟩ := hk5
            obtain ⟨b2, off2, rfl, hlb2, hc5⟩ := hc5 (by simp)
            obtain ⟨q0, q1, _⟩ := hc5 0 _ rfl
            simp only [Nat.zero_mul, Nat.add_zero] at q0 q1
            have y0 := cells_at HX5.out 0 _ rfl
            have y1 := cells_at HX5.out 1 _ rfl
            have y2 := cells_at HX5.out 2 _ rfl
            have y3 := cells_at HX5.out 3 _ rfl
            go_wp2_with fail
            refine (HVA.out W5 HB5.out).mono ?_
            rintro e W6 ⟨rfl, hB6⟩
            have HB6 := Lib.hid (HB5.out.trans (hB6.mono HB5.out.size))
            have HX6 := Lib.hid ((hB6.block X (Array.getElem?_eq_some_iff.1 HX5.out).1).trans HX5.out)
            clear y0 y1 y2 y3
            have q0 := (hB6.cell (p := ⟨b2, off2, none⟩) hlb2).trans q0
            have q1 := (hB6.cell (p := ⟨b2, off2 + 1, none⟩) hlb2).trans q1
            have hlb2 := Nat.lt_of_lt_of_le hlb2 hB6.size
            have y0 := cells_at HX6.out 0 _ rfl
            have y1 := cells_at HX6.out 1 _ rfl
            have y2 := cells_at HX6.out 2 _ rfl
            have y3 := cells_at HX6.out 3 _ rfl
            have hlx := (Array.getElem?_eq_some_iff.1 HX6.out).1
            have HS5 : Hid (∀ wx, Below W6.heap.size W6 wx → Calls Tryz.prog 12 #[.agg #[.int .u8 1, .int .i64 n, .string ⟨#[]⟩, .slice none 0 0]] wx fun e w' => e = .returned (.string (decB u)) ∧ Below wx.heap.size wx w') := Lib.hid (fun wx hwx => by
              rw [← hst]; exact HST.out wx (HB6.out.trans (hwx.mono HB6.out.size)))
            have HB4 := HB6
            have nd : ((decB u).toList == (decB u).toList) = true := by simp
            clear hB6 HB5 HX5 HB6 HX6 hc5 hall herr hst hun HST HVA HCS
            go_wp2_with fail
            refine wp_region_grow_tail (by kernel_rfl) 23 (FQ [ .val (.int .i64 0), .val (.bool true), .val (.bool true), .val (.slice (some ⟨b2, off2, none⟩) 1 cap5), .val (.int .i64 1), .val (.bool true), .val (.bool true), .val (.bool true), .val (.slice (some ⟨b2, off2, none⟩) 1 cap5), .val (.pointer (some ⟨b2, off2, none⟩)), .val (.pointer (some ⟨b2, off2, none⟩)), .val (.int .u8 3), .val (.bool true), .val (.bool true), .val (.bool true), .val (.slice (some ⟨b2, off2, none⟩) 1 cap5), .val (.pointer (some ⟨b2, off2, none⟩)), .val (.pointer (some ⟨b2, off2 + 1, none⟩)), .val (.string (decB u)), .val (.agg #[.int .u8 1, .int .i64 n, .string ⟨#[]⟩, .slice none 0 0]), .val (.string (decB u)), .val (.bool true), .val (.bool true)]) (FQ_grow _) (by kernel_rfl) (by kernel_rfl) (steps_to ?_) ?_
            · simp only [List.take_succ_cons, List.take_zero]
              refine ⟨?_, ?_, ?_, ?_, ?_, ?_, ?_, ?_, ?_, ?_, ?_, ?_, ?_, ?_, ?_, ?_, ?_, ?_, ?_, ?_, ?_, ?_, ?_, trivial⟩
              · intro a wx hb hd hs ho hp
                refine ⟨rfl, ?_⟩
                have h12 : a.tmps.getD 12 undef = _ := (ho 12 (by kernel_rfl)).trans rfl
                unfold Oper.wp
                go_simp
                exact Stepped.at rfl hd (Below.refl _ _) (FQ_mk (.val (.int .i64 0)) rfl (by first | rfl | simp))
              · intro a wx hb hd hs ho hp
                refine ⟨rfl, ?_⟩
                have h118 : a.tmps.getD 118 undef = .int .i64 0 := qval_at hp 0 118 (by kernel_rfl) rfl
                unfold Oper.wp
                go_simp
                exact Stepped.at rfl hd (Below.refl _ _) (FQ_mk (.val (.bool true)) rfl (by first | rfl | simp))
              · intro a wx hb hd hs ho hp
                refine ⟨rfl, ?_⟩
                have h119 : a.tmps.getD 119 undef = .bool true := qval_at hp 1 119 (by kernel_rfl) rfl
                unfold Oper.wp
                go_simp
                exact Stepped.at rfl hd (Below.refl _ _) (FQ_mk (.val (.bool true)) rfl (by first | rfl | simp))
              · intro a wx hb hd hs ho hp
                refine ⟨wanted_true rfl (yielded_at (k := 2) (d := 120) (by kernel_rfl) (qval_at hp 2 120 (by kernel_rfl) rfl)), ?_⟩
                have h10 : a.tmps.getD 10 undef = _ := (ho 10 (by kernel_rfl)).trans rfl
                unfold Oper.wp
                go_simp
                exact Stepped.at rfl hd (Below.refl _ _) (FQ_mk (.val (.slice (some ⟨b2, off2, none⟩) 1 cap5)) rfl (by first | rfl | simp))
              · intro a wx hb hd hs ho hp
                refine ⟨wanted_true rfl (yielded_at (k := 2) (d := 120) (by kernel_rfl) (qval_at hp 2 120 (by kernel_rfl) rfl)), ?_⟩
                have h121 : a.tmps.getD 121 undef = .slice (some ⟨b2, off2, none⟩) 1 cap5 := qval_at hp 3 121 (by kernel_rfl) rfl
                unfold Oper.wp
                go_simp
                exact Stepped.at rfl hd (Below.refl _ _) (FQ_mk (.val (.int .i64 1)) rfl (by first | rfl | simp))
              · intro a wx hb hd hs ho hp
                refine ⟨wanted_true rfl (yielded_at (k := 2) (d := 120) (by kernel_rfl) (qval_at hp 2 120 (by kernel_rfl) rfl)), ?_⟩
                have h122 : a.tmps.getD 122 undef = .int .i64 1 := qval_at hp 4 122 (by kernel_rfl) rfl
                unfold Oper.wp
                go_simp
                exact Stepped.at rfl hd (Below.refl _ _) (FQ_mk (.val (.bool true)) rfl (by first | rfl | simp))
              · intro a wx hb hd hs ho hp
                refine ⟨rfl, ?_⟩
                have h120 : a.tmps.getD 120 undef = .bool true := qval_at hp 2 120 (by kernel_rfl) rfl
                have h123 : a.tmps.getD 123 undef = .bool true := qval_at hp 5 123 (by kernel_rfl) rfl
                unfold Oper.wp
                go_simp
                exact Stepped.at rfl hd (Below.refl _ _) (FQ_mk (.val (.bool true)) rfl (by first | rfl | simp))
              · intro a wx hb hd hs ho hp
                refine ⟨rfl, ?_⟩
                have h124 : a.tmps.getD 124 undef = .bool true := qval_at hp 6 124 (by kernel_rfl) rfl
                unfold Oper.wp
                go_simp
                exact Stepped.at rfl hd (Below.refl _ _) (FQ_mk (.val (.bool true)) rfl (by first | rfl | simp))
              · intro a wx hb hd hs ho hp
                refine ⟨wanted_true rfl (yielded_at (k := 7) (d := 125) (by kernel_rfl) (qval_at hp 7 125 (by kernel_rfl) rfl)), ?_⟩
                have h10 : a.tmps.getD 10 undef = _ := (ho 10 (by kernel_rfl)).trans rfl
                unfold Oper.wp
                go_simp
                exact Stepped.at rfl hd (Below.refl _ _) (FQ_mk (.val (.slice (some ⟨b2, off2, none⟩) 1 cap5)) rfl (by first | rfl | simp))
              · intro a wx hb hd hs ho hp
                refine ⟨wanted_true rfl (yielded_at (k := 7) (d := 125) (by kernel_rfl) (qval_at hp 7 125 (by kernel_rfl) rfl)), ?_⟩
                have h126 : a.tmps.getD 126 undef = .slice (some ⟨b2, off2, none⟩) 1 cap5 := qval_at hp 8 126 (by kernel_rfl) rfl
                unfold Oper.wp
                go_simp
                exact Stepped.at rfl hd (Below.refl _ _) (FQ_mk (.val (.pointer (some ⟨b2, off2, none⟩))) rfl (by first | rfl | simp))
              · intro a wx hb hd hs ho hp
                refine ⟨wanted_true rfl (yielded_at (k := 7) (d := 125) (by kernel_rfl) (qval_at hp 7 125 (by kernel_rfl) rfl)), ?_⟩
                have h127 : a.tmps.getD 127 undef = .pointer (some ⟨b2, off2, none⟩) := qval_at hp 9 127 (by kernel_rfl) rfl
                unfold Oper.wp
                go_simp
                exact Stepped.at rfl hd (Below.refl _ _) (FQ_mk (.val (.pointer (some ⟨b2, off2, none⟩))) rfl (by first | rfl | simp))
              · intro a wx hb hd hs ho hp
                refine ⟨wanted_true rfl (yielded_at (k := 7) (d := 125) (by kernel_rfl) (qval_at hp 7 125 (by kernel_rfl) rfl)), ?_⟩
                have h128 : a.tmps.getD 128 undef = .pointer (some ⟨b2, off2, none⟩) := qval_at hp 10 128 (by kernel_rfl) rfl
                have x0 := (hb.cell (p := ⟨b2, off2, none⟩) hlb2).trans q0
                unfold Oper.wp
                go_simp
                exact Stepped.at rfl hd (Below.refl _ _) (FQ_mk (.val (.int .u8 3)) rfl rfl)
              · intro a wx hb hd hs ho hp
                refine ⟨wanted_true rfl (yielded_at (k := 7) (d := 125) (by kernel_rfl) (qval_at hp 7 125 (by kernel_rfl) rfl)), ?_⟩
                have h129 : a.tmps.getD 129 undef = .int .u8 3 := qval_at hp 11 129 (by kernel_rfl) rfl
                unfold Oper.wp
                go_simp
                exact Stepped.at rfl hd (Below.refl _ _) (FQ_mk (.val (.bool true)) rfl (by first | rfl | simp))
              · intro a wx hb hd hs ho hp
                refine ⟨rfl, ?_⟩
                have h125 : a.tmps.getD 125 undef = .bool true := qval_at hp 7 125 (by kernel_rfl) rfl
                have h130 : a.tmps.getD 130 undef = .bool true := qval_at hp 12 130 (by kernel_rfl) rfl
                unfold Oper.wp
                go_simp
                exact Stepped.at rfl hd (Below.refl _ _) (FQ_mk (.val (.bool true)) rfl (by first | rfl | simp))
              · intro a wx hb hd hs ho hp
                refine ⟨rfl, ?_⟩
                have h131 : a.tmps.getD 131 undef = .bool true := qval_at hp 13 131 (by kernel_rfl) rfl
                unfold Oper.wp
                go_simp
                exact Stepped.at rfl hd (Below.refl _ _) (FQ_mk (.val (.bool true)) rfl (by first | rfl | simp))
              · intro a wx hb hd hs ho hp
                refine ⟨wanted_true rfl (yielded_at (k := 14) (d := 132) (by kernel_rfl) (qval_at hp 14 132 (by kernel_rfl) rfl)), ?_⟩
                have h10 : a.tmps.getD 10 undef = _ := (ho 10 (by kernel_rfl)).trans rfl
                unfold Oper.wp
                go_simp
                exact Stepped.at rfl hd (Below.refl _ _) (FQ_mk (.val (.slice (some ⟨b2, off2, none⟩) 1 cap5)) rfl (by first | rfl | simp))
              · intro a wx hb hd hs ho hp
                refine ⟨wanted_true rfl (yielded_at (k := 14) (d := 132) (by kernel_rfl) (qval_at hp 14 132 (by kernel_rfl) rfl)), ?_⟩
                have h133 : a.tmps.getD 133 undef = .slice (some ⟨b2, off2, none⟩) 1 cap5 := qval_at hp 15 133 (by kernel_rfl) rfl
                unfold Oper.wp
                go_simp
                exact Stepped.at rfl hd (Below.refl _ _) (FQ_mk (.val (.pointer (some ⟨b2, off2, none⟩))) rfl (by first | rfl | simp))
              · intro a wx hb hd hs ho hp
                refine ⟨wanted_true rfl (yielded_at (k := 14) (d := 132) (by kernel_rfl) (qval_at hp 14 132 (by kernel_rfl) rfl)), ?_⟩
                have h134 : a.tmps.getD 134 undef = .pointer (some ⟨b2, off2, none⟩) := qval_at hp 16 134 (by kernel_rfl) rfl
                unfold Oper.wp
                go_simp
                exact Stepped.at rfl hd (Below.refl _ _) (FQ_mk (.val (.pointer (some ⟨b2, off2 + 1, none⟩))) rfl (by first | rfl | simp))
              · intro a wx hb hd hs ho hp
                refine ⟨wanted_true rfl (yielded_at (k := 14) (d := 132) (by kernel_rfl) (qval_at hp 14 132 (by kernel_rfl) rfl)), ?_⟩
                have h135 : a.tmps.getD 135 undef = .pointer (some ⟨b2, off2 + 1, none⟩) := qval_at hp 17 135 (by kernel_rfl) rfl
                have x0 := (hb.cell (p := ⟨b2, off2 + 1, none⟩) hlb2).trans q1
                unfold Oper.wp
                go_simp
                exact Stepped.at rfl hd (Below.refl _ _) (FQ_mk (.val (.string (decB u))) rfl rfl)
              · intro a wx hb hd hs ho hp
                refine ⟨wanted_true rfl (yielded_at (k := 14) (d := 132) (by kernel_rfl) (qval_at hp 14 132 (by kernel_rfl) rfl)), ?_⟩
                have h9 : a.tmps.getD 9 undef = _ := (ho 9 (by kernel_rfl)).trans rfl
                have x0 := (hb.cell (p := ⟨X, 0, none⟩) hlx).trans y0
                have x1 := (hb.cell (p := ⟨X, 1, none⟩) hlx).trans y1
                have x2 := (hb.cell (p := ⟨X, 2, none⟩) hlx).trans y2
                have x3 := (hb.cell (p := ⟨X, 3, none⟩) hlx).trans y3
                unfold Oper.wp
                go_simp
                exact Stepped.at rfl hd (Below.refl _ _) (FQ_mk (.val (.agg #[.int .u8 1, .int .i64 n, .string ⟨#[]⟩, .slice none 0 0])) rfl rfl)
              · intro a wx hb hd hs ho hp
                refine ⟨wanted_true rfl (yielded_at (k := 14) (d := 132) (by kernel_rfl) (qval_at hp 14 132 (by kernel_rfl) rfl)), ?_⟩
                have h137 : a.tmps.getD 137 undef = .agg #[.int .u8 1, .int .i64 n, .string ⟨#[]⟩, .slice none 0 0] := qval_at hp 19 137 (by kernel_rfl) rfl
                unfold Oper.wp
                go_simp
                refine ((HS5.out wx hb)).mono ?_
                rintro e w2 ⟨rfl, hb2⟩
                exact Stepped.at rfl hd hb2 (FQ_mk (.val (.string (decB u))) rfl rfl)
              · intro a wx hb hd hs ho hp
                refine ⟨wanted_true rfl (yielded_at (k := 14) (d := 132) (by kernel_rfl) (qval_at hp 14 132 (by kernel_rfl) rfl)), ?_⟩
                have h136 : a.tmps.getD 136 undef = .string (decB u) := qval_at hp 18 136 (by kernel_rfl) rfl
                have h138 : a.tmps.getD 138 undef = .string (decB u) := qval_at hp 20 138 (by kernel_rfl) rfl
                unfold Oper.wp
                go_simp
                exact Stepped.at rfl hd (Below.refl _ _) (FQ_mk (.val (.bool true)) rfl (by first | rfl | simp))
              · intro a wx hb hd hs ho hp
                refine ⟨rfl, ?_⟩
                have h132 : a.tmps.getD 132 undef = .bool true := qval_at hp 14 132 (by kernel_rfl) rfl
                have h139 : a.tmps.getD 139 undef = .bool true := qval_at hp 21 139 (by kernel_rfl) rfl
                unfold Oper.wp
                go_simp
                exact Stepped.at rfl hd (Below.refl _ _) (FQ_mk (.val (.bool true)) rfl (by first | rfl | simp))
            intro a7 w7 hb7 hd7 hs7 ho7 hf7
            have k118 : a7.tmps.getD 118 undef = .int .i64 0 := FQ_at (.val (.int .i64 0)) rfl (facts_to hf7 0 118 (by decide) (by kernel_rfl))
            have k119 : a7.tmps.getD 119 undef = .bool true := FQ_at (.val (.bool true)) rfl (facts_to hf7 1 119 (by decide) (by kernel_rfl))
            have k120 : a7.tmps.getD 120 undef = .bool true := FQ_at (.val (.bool true)) rfl (facts_to hf7 2 120 (by decide) (by kernel_rfl))
            have k121 : a7.tmps.getD 121 undef = .slice (some ⟨b2, off2, none⟩) 1 cap5 := FQ_at (.val (.slice (some ⟨b2, off2, none⟩) 1 cap5)) rfl (facts_to hf7 3 121 (by decide) (by kernel_rfl))
            have k122 : a7.tmps.getD 122 undef = .int .i64 1 := FQ_at (.val (.int .i64 1)) rfl (facts_to hf7 4 122 (by decide) (by kernel_rfl))
            have k123 : a7.tmps.getD 123 undef = .bool true := FQ_at (.val (.bool true)) rfl (facts_to hf7 5 123 (by decide) (by kernel_rfl))
            have k124 : a7.tmps.getD 124 undef = .bool true := FQ_at (.val (.bool true)) rfl (facts_to hf7 6 124 (by decide) (by kernel_rfl))
            have k125 : a7.tmps.getD 125 undef = .bool true := FQ_at (.val (.bool true)) rfl (facts_to hf7 7 125 (by decide) (by kernel_rfl))
            have k126 : a7.tmps.getD 126 undef = .slice (some ⟨b2, off2, none⟩) 1 cap5 := FQ_at (.val (.slice (some ⟨b2, off2, none⟩) 1 cap5)) rfl (facts_to hf7 8 126 (by decide) (by kernel_rfl))
            have k127 : a7.tmps.getD 127 undef = .pointer (some ⟨b2, off2, none⟩) := FQ_at (.val (.pointer (some ⟨b2, off2, none⟩))) rfl (facts_to hf7 9 127 (by decide) (by kernel_rfl))
            have k128 : a7.tmps.getD 128 undef = .pointer (some ⟨b2, off2, none⟩) := FQ_at (.val (.pointer (some ⟨b2, off2, none⟩))) rfl (facts_to hf7 10 128 (by decide) (by kernel_rfl))
            have k129 : a7.tmps.getD 129 undef = .int .u8 3 := FQ_at (.val (.int .u8 3)) rfl (facts_to hf7 11 129 (by decide) (by kernel_rfl))
            have k130 : a7.tmps.getD 130 undef = .bool true := FQ_at (.val (.bool true)) rfl (facts_to hf7 12 130 (by decide) (by kernel_rfl))
            have k131 : a7.tmps.getD 131 undef = .bool true := FQ_at (.val (.bool true)) rfl (facts_to hf7 13 131 (by decide) (by kernel_rfl))
            have k132 : a7.tmps.getD 132 undef = .bool true := FQ_at (.val (.bool true)) rfl (facts_to hf7 14 132 (by decide) (by kernel_rfl))
            have k133 : a7.tmps.getD 133 undef = .slice (some ⟨b2, off2, none⟩) 1 cap5 := FQ_at (.val (.slice (some ⟨b2, off2, none⟩) 1 cap5)) rfl (facts_to hf7 15 133 (by decide) (by kernel_rfl))
            have k134 : a7.tmps.getD 134 undef = .pointer (some ⟨b2, off2, none⟩) := FQ_at (.val (.pointer (some ⟨b2, off2, none⟩))) rfl (facts_to hf7 16 134 (by decide) (by kernel_rfl))
            have k135 : a7.tmps.getD 135 undef = .pointer (some ⟨b2, off2 + 1, none⟩) := FQ_at (.val (.pointer (some ⟨b2, off2 + 1, none⟩))) rfl (facts_to hf7 17 135 (by decide) (by kernel_rfl))
            have k136 : a7.tmps.getD 136 undef = .string (decB u) := FQ_at (.val (.string (decB u))) rfl (facts_to hf7 18 136 (by decide) (by kernel_rfl))
            have k137 : a7.tmps.getD 137 undef = .agg #[.int .u8 1, .int .i64 n, .string ⟨#[]⟩, .slice none 0 0] := FQ_at (.val (.agg #[.int .u8 1, .int .i64 n, .string ⟨#[]⟩, .slice none 0 0])) rfl (facts_to hf7 19 137 (by decide) (by kernel_rfl))
            have k138 : a7.tmps.getD 138 undef = .string (decB u) := FQ_at (.val (.string (decB u))) rfl (facts_to hf7 20 138 (by decide) (by kernel_rfl))
            have k139 : a7.tmps.getD 139 undef = .bool true := FQ_at (.val (.bool true)) rfl (facts_to hf7 21 139 (by decide) (by kernel_rfl))
            have k140 : a7.tmps.getD 140 undef = .bool true := FQ_at (.val (.bool true)) rfl (facts_to hf7 22 140 (by decide) (by kernel_rfl))
            have hE7 := slots_all a7.tmps 141 (hs7.trans rfl)
            simp only [List.range, List.range.loop, List.map, k118, k119, k120, k121, k122, k123, k124, k125, k126, k127, k128, k129, k130, k131, k132, k133, k134, k135, k136, k137, k138, k139, k140, ho7 0 (by kernel_rfl), ho7 1 (by kernel_rfl), ho7 2 (by kernel_rfl), ho7 3 (by kernel_rfl), ho7 4 (by kernel_rfl), ho7 5 (by kernel_rfl), ho7 6 (by kernel_rfl), ho7 7 (by kernel_rfl), ho7 8 (by kernel_rfl), ho7 9 (by kernel_rfl), ho7 10 (by kernel_rfl), ho7 11 (by kernel_rfl), ho7 12 (by kernel_rfl), ho7 13 (by kernel_rfl), ho7 14 (by kernel_rfl), ho7 15 (by kernel_rfl), ho7 16 (by kernel_rfl), ho7 17 (by kernel_rfl), ho7 18 (by kernel_rfl), ho7 19 (by kernel_rfl), ho7 20 (by kernel_rfl), ho7 21 (by kernel_rfl), ho7 22 (by kernel_rfl), ho7 23 (by kernel_rfl), ho7 24 (by kernel_rfl), ho7 25 (by kernel_rfl), ho7 26 (by kernel_rfl), ho7 27 (by kernel_rfl), ho7 28 (by kernel_rfl), ho7 29 (by kernel_rfl), ho7 30 (by kernel_rfl), ho7 31 (by kernel_rfl), ho7 32 (by kernel_rfl), ho7 33 (by kernel_rfl), ho7 34 (by kernel_rfl), ho7 35 (by kernel_rfl), ho7 36 (by kernel_rfl), ho7 37 (by kernel_rfl), ho7 38 (by kernel_rfl), ho7 39 (by kernel_rfl), ho7 40 (by kernel_rfl), ho7 41 (by kernel_rfl), ho7 42 (by kernel_rfl), ho7 43 (by kernel_rfl), ho7 44 (by kernel_rfl), ho7 45 (by kernel_rfl), ho7 46 (by kernel_rfl), ho7 47 (by kernel_rfl), ho7 48 (by kernel_rfl), ho7 49 (by kernel_rfl), ho7 50 (by kernel_rfl), ho7 51 (by kernel_rfl), ho7 52 (by kernel_rfl), ho7 53 (by kernel_rfl), ho7 54 (by kernel_rfl), ho7 55 (by kernel_rfl), ho7 56 (by kernel_rfl), ho7 57 (by kernel_rfl), ho7 58 (by kernel_rfl), ho7 59 (by kernel_rfl), ho7 60 (by kernel_rfl), ho7 61 (by kernel_rfl), ho7 62 (by kernel_rfl), ho7 63 (by kernel_rfl), ho7 64 (by kernel_rfl), ho7 65 (by kernel_rfl), ho7 66 (by kernel_rfl), ho7 67 (by kernel_rfl), ho7 68 (by kernel_rfl), ho7 69 (by kernel_rfl), ho7 70 (by kernel_rfl), ho7 71 (by kernel_rfl), ho7 72 (by kernel_rfl), ho7 73 (by kernel_rfl), ho7 74 (by kernel_rfl), ho7 75 (by kernel_rfl), ho7 76 (by kernel_rfl), ho7 77 (by kernel_rfl), ho7 78 (by kernel_rfl), ho7 79 (by kernel_rfl), ho7 80 (by kernel_rfl), ho7 81 (by kernel_rfl), ho7 82 (by kernel_rfl), ho7 83 (by kernel_rfl), ho7 84 (by kernel_rfl), ho7 85 (by kernel_rfl), ho7 86 (by kernel_rfl), ho7 87 (by kernel_rfl), ho7 88 (by kernel_rfl), ho7 89 (by kernel_rfl), ho7 90 (by kernel_rfl), ho7 91 (by kernel_rfl), ho7 92 (by kernel_rfl), ho7 93 (by kernel_rfl), ho7 94 (by kernel_rfl), ho7 95 (by kernel_rfl), ho7 96 (by kernel_rfl), ho7 97 (by kernel_rfl), ho7 98 (by kernel_rfl), ho7 99 (by kernel_rfl), ho7 100 (by kernel_rfl), ho7 101 (by kernel_rfl), ho7 102 (by kernel_rfl), ho7 103 (by kernel_rfl), ho7 104 (by kernel_rfl), ho7 105 (by kernel_rfl), ho7 106 (by kernel_rfl), ho7 107 (by kernel_rfl), ho7 108 (by kernel_rfl), ho7 109 (by kernel_rfl), ho7 110 (by kernel_rfl), ho7 111 (by kernel_rfl), ho7 112 (by kernel_rfl), ho7 113 (by kernel_rfl), ho7 114 (by kernel_rfl), ho7 115 (by kernel_rfl), ho7 116 (by kernel_rfl), ho7 117 (by kernel_rfl)] at hE7
            obtain ⟨T7, D7⟩ := a7
            simp only at hE7 hd7
            subst hd7 hE7
            have HB7 := Lib.hid (HB4.out.trans (hb7.mono HB4.out.size))
            clear k118 k119 k120 k121 k122 k123 k124 k125 k126 k127 k128 k129 k130 k131 k132 k133 k134 k135 k136 k137 k138 k139 k140 hf7 hs7 ho7 hb7
            simp only [List.drop_succ_cons, List.drop_zero]
            go_wp2_with fail
            go_ret
            exact ⟨rfl, HB7.out⟩
end Go.Proofs.YtgepfenjbjlgpaaGreatDoor
