/- StoreKeeps: its walk. -/
import Derived.Test.YtcoieohbmkjpoaaGreatDoorB1SD
import Derived.IntWalk
namespace Go.Proofs.YtcoieohbmkjpoaaGreatDoor
open Go.RowKit Go.Shelf Go.Maps
attribute [local go_sem] Oper.semAt_some

theorem cell_later {w w' : World} {p : Addr} {v : Value} (hb : Below w.heap.size w w') (h : w.cell? p = some v) : w'.cell? p = some v := (hb.cell (block_lt_of_cell h)).trans h
theorem row_later {w w' : World} {k : Nat} {o : Obj} (hb : Below w.heap.size w w') (h : w.heap[k]? = some o) : w'.heap[k]? = some o := (hb.block _ (Array.getElem?_eq_some_iff.1 h).1).trans h
set_option maxRecDepth 100000 in
set_option maxHeartbeats 16000000 in
theorem keeps_any (L : List Ato) (lv : Value) (w : World) (hT : Tab10 w) (hL : RdL w lv L) :
    Calls Tryz.prog 4 #[lv] w fun e w' => e = .returned (.bool true) ∧ Below w.heap.size w w' := by
  obtain ⟨al, cl, rfl, hl0, hrd0⟩ := hL
  have hL : RdL w (.slice al L.length cl) L := ⟨al, cl, rfl, hl0, hrd0⟩
  have hll : L.length ≤ 9223372036854775807 := by unfold maxLen at hl0; exact hl0
  have HL := Lib.hid hL
  have HT := Lib.hid hT
  clear hL hT hl0 hrd0
  go_enter Tryz.func4, Tryz.ntmps4
  have HAW := Lib.hid (awake11_any w HT.out)
  go_wp2_with (go_at_call 9; refine HAW.out.mono ?_)
  clear HAW
  rintro e w1 ⟨rfl, hb1⟩
  have HB1 := Lib.hid hb1
  have HG1 := Lib.hid (great_any L _ w1 (HL.out.below hb1))
  clear hb1
  go_wp2_with (go_at_call 8; refine HG1.out.mono ?_)
  clear HG1
  rintro e w4 ⟨b, rfl, hbf, hb2⟩
  have HB4 := Lib.hid (below_then HB1.out hb2)
  have HBF := Lib.hid hbf
  clear hbf hb2 HB1
  cases b with
  | true =>
    go_wp2
    go_ret
    exact ⟨rfl, HB4.out⟩
  | false =>
  have HN := Lib.hid (new_any w4 (HT.out.below HB4.out))
  have hgl := HBF.out (by first | rfl | trivial)
  have HC := Lib.hid hgl.2
  have HLL := Lib.hid hgl.1
  have HL4 := Lib.hid (HL.out.below HB4.out)
  clear HBF hgl HL HT
  go_wp2_with (go_at_call 14; refine HN.out.mono ?_; rintro e w5 ⟨S, lab, rfl, hI, hb5⟩; have HI5 := Lib.hid hI; have HB5 := Lib.hid hb5; clear hI hb5 HN)
  go_loopw [4, 5] (fun v i wr => ∃ (j : Nat) (lab : Lab) (A : List Ato), j ≤ L.length ∧ i = .int .i64 j ∧ StI wr w4.heap.size lab S A ∧ LstW w4.heap.size wr lab v A ∧ Hid (A.length ≤ j ∧ ∀ y ∈ A, y ∈ L) ∧ Below w4.heap.size w4 wr) (fun _ i _ => L.length - (intOf i).toNat)
  case atStart => exact ⟨0, lab, [], by omega, by go_num, HI5.out, ⟨⟨[], World.ownsRow_nil _ _ _ _, rfl⟩, fun b e => by cases e⟩, Lib.hid ⟨Nat.le_refl _, fun _ h => by cases h⟩, HB5.out⟩
  case round =>
    obtain ⟨j, lab2, A, hj, rfl, hI, hW, hA, hBr⟩ := hrel
    clear HI5 HB5
    by_cases hlt : j < L.length
    · obtain ⟨a2, c2, e, _, hrd⟩ := HL4.out
      simp only [Value.slice.injEq] at e
      obtain ⟨rfl, _, rfl⟩ := e
      obtain ⟨g, off, v0, v1, rfl, g0, g1, hxx⟩ := hrd j hlt
      clear hrd
      have hcx : cntA L[j] ≤ 1000000 := by have := HC.out _ (List.getElem_mem hlt); omega
      have HML := Lib.hid (List.getElem_mem hlt : L[j] ∈ L)
      have HADD := Lib.hid (add_low w4.heap.size S lab2 A L[j] v0 v1 wr hI hBr.size (hxx.same (fun _ h => h) (fun b h => hBr.block b h)) hcx)
      obtain ⟨X, hX⟩ : ∃ X, L[j] = X := ⟨_, rfl⟩
      rw [hX] at HADD hxx hcx HML
      obtain ⟨p, us⟩ := X
      obtain ⟨ax, cx, rfl, rfl⟩ := hxx.shape
      simp only at g0 g1 hxx HADD
      have G0 := Lib.hid g0
      have G1 := Lib.hid g1
      have x0 := cell_later hBr g0
      have x1 := cell_later hBr g1
      have HX4 := Lib.hid hxx
      have HCX := Lib.hid hcx
      have HBR := Lib.hid hBr
      have HWA := Lib.hid hW
      have HA := Lib.hid hA.out
      have HAL := Lib.hid (show A.length < 150 by have := hA.out.1; have := HLL.out; omega)
      have HGD := Lib.hid (show ∀ y ∈ A, validA y = true from fun y hy => (hI.good y hy).1)
      have i1 : (0 : Int) ≤ (j : Int) := by omega
      have i2 : (j : Int) < (L.length : Int) := by omega
      obtain ⟨wa, wc, rfl⟩ := (hW.1.read hBr.size).shape
      clear g0 g1 hxx hI hA hBr hX hW hcx
      cases hv : validA (p, us) with
      | false =>
        have hr := addR_no (A := A) hv
        have HNI := Lib.hid (show (false = true ↔ (p, us) ∈ A) from ⟨fun e => (by cases e), fun h => (by have := HGD.out _ h; rw [hv] at this; cases this)⟩)
        rw [hr.1, hr.2] at HADD
        have HV := Lib.hid hv
        clear hr hv
        go_wp2_with (first
          | (have _ := HB6.out; go_at_call 10; refine HVA.out.mono ?_; rintro e w8 ⟨rfl, hb8⟩; have HB8 := Lib.hid (below_then HB6.out hb8); have HI8 := Lib.hid (HI6.out.below hb8); have HW8 := Lib.hid (HW6.out.below HB6.out.size hb8); have HX8 := Lib.hid (HX4.out.below HB8.out); clear hb8 x0 x1)
          | (go_at_call 15; refine HADD.out.mono ?_; rintro e w6 ⟨rfl, lab3, hI3, hl3, hs3, hb3⟩; have HI6 := Lib.hid hI3; have HB6 := Lib.hid (HBR.out.trans hb3); have HW6 := Lib.hid (HWA.out.step hs3 hb3 hl3); clear hI3 hl3 hs3 hb3 x0 x1; have x0 := cell_later HB6.out G0.out; have x1 := cell_later HB6.out G1.out; have HVA := Lib.hid (validA_q (p, us) _ _ false w6 (HX4.out.below HB6.out) HCX.out HV.out)))
        clear HADD HWA HBR HB6 HI6 HW6 HVA
        have hst := @FL_grow [fV (.bool false), fV (.bool false), fV (.bool false), fV (.bool false), fV (.int .i64 2), fV (.bool false), fV (.slice (some ⟨g, off, none⟩) L.length cl), fV (.int .i64 j), fV (.pointer (some ⟨g, off + j * 2, none⟩)), fV (.agg #[.string p, .slice ax us.length cx]), fV (.bool false), fV (.bool false), fV (.bool false), fV (.bool false), fV (.bool false), fV (.bool true), fV (.bool true), fV (.pointer (some ⟨S, 0, none⟩)), fV (.slice (some ⟨g, off, none⟩) L.length cl), fV (.int .i64 j), fV (.pointer (some ⟨g, off + j * 2, none⟩)), fV (.agg #[.string p, .slice ax us.length cx]), fV (.bool false), fV (.slice (some ⟨g, off, none⟩) L.length cl), fV (.int .i64 j), fV (.pointer (some ⟨g, off + j * 2, none⟩)), fV (.agg #[.string p, .slice ax us.length cx]), fV (.bool false), fV (.bool false), fV (.bool false), fV (.bool false)] (by
          intro F hF
          simp only [List.mem_cons, List.not_mem_nil, or_false] at hF
          rcases hF with rfl | rfl | rfl | rfl | rfl | rfl | rfl | rfl | rfl | rfl | rfl | rfl | rfl | rfl | rfl | rfl | rfl | rfl | rfl | rfl | rfl | rfl | rfl | rfl | rfl | rfl | rfl | rfl | rfl | rfl | rfl <;> first | exact fV_stays _)
        refine wp_region_grow_orB (by kernel_rfl) (FL [fV (.bool false), fV (.bool false), fV (.bool false), fV (.bool false), fV (.int .i64 2), fV (.bool false), fV (.slice (some ⟨g, off, none⟩) L.length cl), fV (.int .i64 j), fV (.pointer (some ⟨g, off + j * 2, none⟩)), fV (.agg #[.string p, .slice ax us.length cx]), fV (.bool false), fV (.bool false), fV (.bool false), fV (.bool false), fV (.bool false), fV (.bool true), fV (.bool true), fV (.pointer (some ⟨S, 0, none⟩)), fV (.slice (some ⟨g, off, none⟩) L.length cl), fV (.int .i64 j), fV (.pointer (some ⟨g, off + j * 2, none⟩)), fV (.agg #[.string p, .slice ax us.length cx]), fV (.bool false), fV (.slice (some ⟨g, off, none⟩) L.length cl), fV (.int .i64 j), fV (.pointer (some ⟨g, off + j * 2, none⟩)), fV (.agg #[.string p, .slice ax us.length cx]), fV (.bool false), fV (.bool false), fV (.bool false), fV (.bool false)]) hst (by kernel_rfl) (steps_or ?_) ?_
        · refine ⟨?_, ?_, ?_, ?_, ?_, ?_, ?_, ?_, ?_, ?_, ?_, ?_, ?_, ?_, ?_, ?_, ?_, ?_, ?_, ?_, ?_, ?_, ?_, ?_, ?_, ?_, ?_, ?_, ?_, ?_, ?_, trivial⟩
          · intro a wx hb hd hs ho hp
            refine Or.inl ⟨rfl, ?_⟩
            have h6 : a.tmps.getD 6 undef = .bool false := (ho 6 (by kernel_rfl)).trans rfl
            unfold Oper.wp
            go_simp
            exact Stepped.at (v := .bool false) (by first | rfl | simp) hd (Below.refl _ _) rfl
          · intro a wx hb hd hs ho hp
            refine Or.inl ⟨rfl, ?_⟩
            have h8 : a.tmps.getD 8 undef = .bool false := (ho 8 (by kernel_rfl)).trans rfl
            unfold Oper.wp
            go_simp
            exact Stepped.at (v := .bool false) (by first | rfl | simp) hd (Below.refl _ _) rfl
          · intro a wx hb hd hs ho hp
            refine Or.inl ⟨rfl, ?_⟩
            have h48 : a.tmps.getD 48 undef = .bool false := facts_at hp 0 48 (by kernel_rfl)
            have h49 : a.tmps.getD 49 undef = .bool false := facts_at hp 1 49 (by kernel_rfl)
            unfold Oper.wp
            go_simp
            exact Stepped.at (v := .bool false) (by first | rfl | simp) hd (Below.refl _ _) rfl
          · intro a wx hb hd hs ho hp
            refine Or.inl ⟨rfl, ?_⟩
            have h50 : a.tmps.getD 50 undef = .bool false := facts_at hp 2 50 (by kernel_rfl)
            unfold Oper.wp
            go_simp
            exact Stepped.at (v := .bool false) (by first | rfl | simp) hd (Below.refl _ _) rfl
          · intro a wx hb hd hs ho hp
            refine Or.inl ⟨wanted_yes rfl (yielded_at (k := 3) (d := 51) (by kernel_rfl) (show a.tmps.getD 51 undef = _ from facts_at hp 3 51 (by kernel_rfl))), ?_⟩
            have h7 : a.tmps.getD 7 undef = .int .i64 2 := (ho 7 (by kernel_rfl)).trans rfl
            unfold Oper.wp
            go_simp
            exact Stepped.at (v := .int .i64 2) (by first | rfl | simp) hd (Below.refl _ _) rfl
          · intro a wx hb hd hs ho hp
            refine Or.inl ⟨wanted_yes rfl (yielded_at (k := 3) (d := 51) (by kernel_rfl) (show a.tmps.getD 51 undef = _ from facts_at hp 3 51 (by kernel_rfl))), ?_⟩
            have h52 : a.tmps.getD 52 undef = .int .i64 2 := facts_at hp 4 52 (by kernel_rfl)
            unfold Oper.wp
            go_simp
            exact Stepped.at (v := .bool false) (by first | rfl | simp) hd (Below.refl _ _) rfl
          · intro a wx hb hd hs ho hp
            refine Or.inl ⟨wanted_yes rfl (yielded_at (k := 3) (d := 51) (by kernel_rfl) (show a.tmps.getD 51 undef = _ from facts_at hp 3 51 (by kernel_rfl))), ?_⟩
            have h0 : a.tmps.getD 0 undef = .slice (some ⟨g, off, none⟩) L.length cl := (ho 0 (by kernel_rfl)).trans rfl
            unfold Oper.wp
            go_simp
            exact Stepped.at (v := .slice (some ⟨g, off, none⟩) L.length cl) (by first | rfl | simp) hd (Below.refl _ _) rfl
          · intro a wx hb hd hs ho hp
            refine Or.inl ⟨wanted_yes rfl (yielded_at (k := 3) (d := 51) (by kernel_rfl) (show a.tmps.getD 51 undef = _ from facts_at hp 3 51 (by kernel_rfl))), ?_⟩
            have h5 : a.tmps.getD 5 undef = .int .i64 j := (ho 5 (by kernel_rfl)).trans rfl
            unfold Oper.wp
            go_simp
            exact Stepped.at (v := .int .i64 j) (by first | rfl | simp) hd (Below.refl _ _) rfl
          · intro a wx hb hd hs ho hp
            refine Or.inl ⟨wanted_yes rfl (yielded_at (k := 3) (d := 51) (by kernel_rfl) (show a.tmps.getD 51 undef = _ from facts_at hp 3 51 (by kernel_rfl))), ?_⟩
            have h54 : a.tmps.getD 54 undef = .slice (some ⟨g, off, none⟩) L.length cl := facts_at hp 6 54 (by kernel_rfl)
            have h55 : a.tmps.getD 55 undef = .int .i64 j := facts_at hp 7 55 (by kernel_rfl)
            unfold Oper.wp
            go_simp
            exact Stepped.at (v := .pointer (some ⟨g, off + j * 2, none⟩)) (by first | rfl | simp) hd (Below.refl _ _) rfl
          · intro a wx hb hd hs ho hp
            refine Or.inl ⟨wanted_yes rfl (yielded_at (k := 3) (d := 51) (by kernel_rfl) (show a.tmps.getD 51 undef = _ from facts_at hp 3 51 (by kernel_rfl))), ?_⟩
            have h56 : a.tmps.getD 56 undef = .pointer (some ⟨g, off + j * 2, none⟩) := facts_at hp 8 56 (by kernel_rfl)
            have s56 := qslot_of (hs.trans (rfl : _ = 166)) (by decide) h56
            have z0 := cell_later hb (cell_later HB8.out G0.out)
            have z1 := cell_later hb (cell_later HB8.out G1.out)
            unfold Oper.wp
            go_simp
            exact Stepped.at (v := .agg #[.string p, .slice ax us.length cx]) (by first | rfl | simp) hd (Below.refl _ _) rfl
          · intro a wx hb hd hs ho hp
            refine Or.inl ⟨wanted_yes rfl (yielded_at (k := 3) (d := 51) (by kernel_rfl) (show a.tmps.getD 51 undef = _ from facts_at hp 3 51 (by kernel_rfl))), ?_⟩
            have h57 : a.tmps.getD 57 undef = .agg #[.string p, .slice ax us.length cx] := facts_at hp 9 57 (by kernel_rfl)
            unfold Oper.wp
            go_simp
            refine (validA_q (p, us) _ _ false wx (HX8.out.below hb) HCX.out HV.out).mono ?_
            rintro e w9 ⟨rfl, hb9⟩
            exact Stepped.at (v := .bool false) rfl hd (hb9) rfl
          · intro a wx hb hd hs ho hp
            refine Or.inl ⟨wanted_yes rfl (yielded_at (k := 3) (d := 51) (by kernel_rfl) (show a.tmps.getD 51 undef = _ from facts_at hp 3 51 (by kernel_rfl))), ?_⟩
            have h53 : a.tmps.getD 53 undef = .bool false := facts_at hp 5 53 (by kernel_rfl)
            have h58 : a.tmps.getD 58 undef = .bool false := facts_at hp 10 58 (by kernel_rfl)
            unfold Oper.wp
            go_simp
            exact Stepped.at (v := .bool false) (by first | rfl | simp) hd (Below.refl _ _) rfl
          · intro a wx hb hd hs ho hp
            refine Or.inl ⟨rfl, ?_⟩
            have h51 : a.tmps.getD 51 undef = .bool false := facts_at hp 3 51 (by kernel_rfl)
            have h59 : a.tmps.getD 59 undef = .bool false := facts_at hp 11 59 (by kernel_rfl)
            unfold Oper.wp
            go_simp
            exact Stepped.at (v := .bool false) (by first | rfl | simp) hd (Below.refl _ _) rfl
          · intro a wx hb hd hs ho hp
            refine Or.inl ⟨rfl, ?_⟩
            have h60 : a.tmps.getD 60 undef = .bool false := facts_at hp 12 60 (by kernel_rfl)
            unfold Oper.wp
            go_simp
            exact Stepped.at (v := .bool false) (by first | rfl | simp) hd (Below.refl _ _) rfl
          · intro a wx hb hd hs ho hp
            refine Or.inl ⟨wanted_yes rfl (yielded_at (k := 13) (d := 61) (by kernel_rfl) (show a.tmps.getD 61 undef = _ from facts_at hp 13 61 (by kernel_rfl))), ?_⟩
            have h6 : a.tmps.getD 6 undef = .bool false := (ho 6 (by kernel_rfl)).trans rfl
            unfold Oper.wp
            go_simp
            exact Stepped.at (v := .bool false) (by first | rfl | simp) hd (Below.refl _ _) rfl
          · intro a wx hb hd hs ho hp
            refine Or.inl ⟨wanted_yes rfl (yielded_at (k := 13) (d := 61) (by kernel_rfl) (show a.tmps.getD 61 undef = _ from facts_at hp 13 61 (by kernel_rfl))), ?_⟩
            have h62 : a.tmps.getD 62 undef = .bool false := facts_at hp 14 62 (by kernel_rfl)
            unfold Oper.wp
            go_simp
            exact Stepped.at (v := .bool true) (by first | rfl | simp) hd (Below.refl _ _) rfl
          · intro a wx hb hd hs ho hp
            refine Or.inl ⟨wanted_yes rfl (yielded_at (k := 13) (d := 61) (by kernel_rfl) (show a.tmps.getD 61 undef = _ from facts_at hp 13 61 (by kernel_rfl))), ?_⟩
            have h63 : a.tmps.getD 63 undef = .bool true := facts_at hp 15 63 (by kernel_rfl)
            unfold Oper.wp
            go_simp
            exact Stepped.at (v := .bool true) (by first | rfl | simp) hd (Below.refl _ _) rfl
          · intro a wx hb hd hs ho hp
            refine Or.inl ⟨wanted_yes rfl (yielded_at (k := 16) (d := 64) (by kernel_rfl) (show a.tmps.getD 64 undef = _ from facts_at hp 16 64 (by kernel_rfl))), ?_⟩
            have h3 : a.tmps.getD 3 undef = .pointer (some ⟨S, 0, none⟩) := (ho 3 (by kernel_rfl)).trans rfl
            unfold Oper.wp
            go_simp
            exact Stepped.at (v := .pointer (some ⟨S, 0, none⟩)) (by first | rfl | simp) hd (Below.refl _ _) rfl
          · intro a wx hb hd hs ho hp
            refine Or.inl ⟨wanted_yes rfl (yielded_at (k := 16) (d := 64) (by kernel_rfl) (show a.tmps.getD 64 undef = _ from facts_at hp 16 64 (by kernel_rfl))), ?_⟩
            have h0 : a.tmps.getD 0 undef = .slice (some ⟨g, off, none⟩) L.length cl := (ho 0 (by kernel_rfl)).trans rfl
            unfold Oper.wp
            go_simp
            exact Stepped.at (v := .slice (some ⟨g, off, none⟩) L.length cl) (by first | rfl | simp) hd (Below.refl _ _) rfl
          · intro a wx hb hd hs ho hp
            refine Or.inl ⟨wanted_yes rfl (yielded_at (k := 16) (d := 64) (by kernel_rfl) (show a.tmps.getD 64 undef = _ from facts_at hp 16 64 (by kernel_rfl))), ?_⟩
            have h5 : a.tmps.getD 5 undef = .int .i64 j := (ho 5 (by kernel_rfl)).trans rfl
            unfold Oper.wp
            go_simp
            exact Stepped.at (v := .int .i64 j) (by first | rfl | simp) hd (Below.refl _ _) rfl
          · intro a wx hb hd hs ho hp
            refine Or.inl ⟨wanted_yes rfl (yielded_at (k := 16) (d := 64) (by kernel_rfl) (show a.tmps.getD 64 undef = _ from facts_at hp 16 64 (by kernel_rfl))), ?_⟩
            have h66 : a.tmps.getD 66 undef = .slice (some ⟨g, off, none⟩) L.length cl := facts_at hp 18 66 (by kernel_rfl)
            have h67 : a.tmps.getD 67 undef = .int .i64 j := facts_at hp 19 67 (by kernel_rfl)
            unfold Oper.wp
            go_simp
            exact Stepped.at (v := .pointer (some ⟨g, off + j * 2, none⟩)) (by first | rfl | simp) hd (Below.refl _ _) rfl
          · intro a wx hb hd hs ho hp
            refine Or.inl ⟨wanted_yes rfl (yielded_at (k := 16) (d := 64) (by kernel_rfl) (show a.tmps.getD 64 undef = _ from facts_at hp 16 64 (by kernel_rfl))), ?_⟩
            have h68 : a.tmps.getD 68 undef = .pointer (some ⟨g, off + j * 2, none⟩) := facts_at hp 20 68 (by kernel_rfl)
            have s68 := qslot_of (hs.trans (rfl : _ = 166)) (by decide) h68
            have z0 := cell_later hb (cell_later HB8.out G0.out)
            have z1 := cell_later hb (cell_later HB8.out G1.out)
            unfold Oper.wp
            go_simp
            exact Stepped.at (v := .agg #[.string p, .slice ax us.length cx]) (by first | rfl | simp) hd (Below.refl _ _) rfl
          · intro a wx hb hd hs ho hp
            refine Or.inl ⟨wanted_yes rfl (yielded_at (k := 16) (d := 64) (by kernel_rfl) (show a.tmps.getD 64 undef = _ from facts_at hp 16 64 (by kernel_rfl))), ?_⟩
            have h65 : a.tmps.getD 65 undef = .pointer (some ⟨S, 0, none⟩) := facts_at hp 17 65 (by kernel_rfl)
            have h69 : a.tmps.getD 69 undef = .agg #[.string p, .slice ax us.length cx] := facts_at hp 21 69 (by kernel_rfl)
            unfold Oper.wp
            go_simp
            refine (has_q w4.heap.size S lab3 A (p, us) _ _ false wx (HI8.out.below hb) (HX8.out.below hb) HCX.out HNI.out).mono ?_
            rintro e w9 ⟨rfl, hb9⟩
            exact Stepped.at (v := .bool false) rfl hd (hb9) rfl
          · intro a wx hb hd hs ho hp
            refine Or.inl ⟨wanted_yes rfl (yielded_at (k := 16) (d := 64) (by kernel_rfl) (show a.tmps.getD 64 undef = _ from facts_at hp 16 64 (by kernel_rfl))), ?_⟩
            have h0 : a.tmps.getD 0 undef = .slice (some ⟨g, off, none⟩) L.length cl := (ho 0 (by kernel_rfl)).trans rfl
            unfold Oper.wp
            go_simp
            exact Stepped.at (v := .slice (some ⟨g, off, none⟩) L.length cl) (by first | rfl | simp) hd (Below.refl _ _) rfl
          · intro a wx hb hd hs ho hp
            refine Or.inl ⟨wanted_yes rfl (yielded_at (k := 16) (d := 64) (by kernel_rfl) (show a.tmps.getD 64 undef = _ from facts_at hp 16 64 (by kernel_rfl))), ?_⟩
            have h5 : a.tmps.getD 5 undef = .int .i64 j := (ho 5 (by kernel_rfl)).trans rfl
            unfold Oper.wp
            go_simp
            exact Stepped.at (v := .int .i64 j) (by first | rfl | simp) hd (Below.refl _ _) rfl
          · intro a wx hb hd hs ho hp
            refine Or.inl ⟨wanted_yes rfl (yielded_at (k := 16) (d := 64) (by kernel_rfl) (show a.tmps.getD 64 undef = _ from facts_at hp 16 64 (by kernel_rfl))), ?_⟩
            have h71 : a.tmps.getD 71 undef = .slice (some ⟨g, off, none⟩) L.length cl := facts_at hp 23 71 (by kernel_rfl)
            have h72 : a.tmps.getD 72 undef = .int .i64 j := facts_at hp 24 72 (by kernel_rfl)
            unfold Oper.wp
            go_simp
            exact Stepped.at (v := .pointer (some ⟨g, off + j * 2, none⟩)) (by first | rfl | simp) hd (Below.refl _ _) rfl
          · intro a wx hb hd hs ho hp
            refine Or.inl ⟨wanted_yes rfl (yielded_at (k := 16) (d := 64) (by kernel_rfl) (show a.tmps.getD 64 undef = _ from facts_at hp 16 64 (by kernel_rfl))), ?_⟩
            have h73 : a.tmps.getD 73 undef = .pointer (some ⟨g, off + j * 2, none⟩) := facts_at hp 25 73 (by kernel_rfl)
            have s73 := qslot_of (hs.trans (rfl : _ = 166)) (by decide) h73
            have z0 := cell_later hb (cell_later HB8.out G0.out)
            have z1 := cell_later hb (cell_later HB8.out G1.out)
            unfold Oper.wp
            go_simp
            exact Stepped.at (v := .agg #[.string p, .slice ax us.length cx]) (by first | rfl | simp) hd (Below.refl _ _) rfl
          · intro a wx hb hd hs ho hp
            refine Or.inl ⟨wanted_yes rfl (yielded_at (k := 16) (d := 64) (by kernel_rfl) (show a.tmps.getD 64 undef = _ from facts_at hp 16 64 (by kernel_rfl))), ?_⟩
            have h74 : a.tmps.getD 74 undef = .agg #[.string p, .slice ax us.length cx] := facts_at hp 26 74 (by kernel_rfl)
            unfold Oper.wp
            go_simp
            refine (validA_q (p, us) _ _ false wx (HX8.out.below hb) HCX.out HV.out).mono ?_
            rintro e w9 ⟨rfl, hb9⟩
            exact Stepped.at (v := .bool false) rfl hd (hb9) rfl
          · intro a wx hb hd hs ho hp
            refine Or.inl ⟨wanted_yes rfl (yielded_at (k := 16) (d := 64) (by kernel_rfl) (show a.tmps.getD 64 undef = _ from facts_at hp 16 64 (by kernel_rfl))), ?_⟩
            have h70 : a.tmps.getD 70 undef = .bool false := facts_at hp 22 70 (by kernel_rfl)
            have h75 : a.tmps.getD 75 undef = .bool false := facts_at hp 27 75 (by kernel_rfl)
            unfold Oper.wp
            go_simp
            exact Stepped.at (v := .bool false) (by first | rfl | simp) hd (Below.refl _ _) rfl
          · intro a wx hb hd hs ho hp
            refine Or.inl ⟨wanted_yes rfl (yielded_at (k := 13) (d := 61) (by kernel_rfl) (show a.tmps.getD 61 undef = _ from facts_at hp 13 61 (by kernel_rfl))), ?_⟩
            have h64 : a.tmps.getD 64 undef = .bool true := facts_at hp 16 64 (by kernel_rfl)
            have h76 : a.tmps.getD 76 undef = .bool false := facts_at hp 28 76 (by kernel_rfl)
            unfold Oper.wp
            go_simp
            exact Stepped.at (v := .bool false) (by first | rfl | simp) hd (Below.refl _ _) rfl
          · intro a wx hb hd hs ho hp
            refine Or.inl ⟨rfl, ?_⟩
            have h61 : a.tmps.getD 61 undef = .bool false := facts_at hp 13 61 (by kernel_rfl)
            have h77 : a.tmps.getD 77 undef = .bool false := facts_at hp 29 77 (by kernel_rfl)
            unfold Oper.wp
            go_simp
            exact Stepped.at (v := .bool false) (by first | rfl | simp) hd (Below.refl _ _) rfl
        intro ac W9 hJ
        obtain ⟨u48, f48⟩ : ∃ u, ac.tmps.getD 48 undef = u := ⟨_, rfl⟩
        obtain ⟨u49, f49⟩ : ∃ u, ac.tmps.getD 49 undef = u := ⟨_, rfl⟩
        obtain ⟨u50, f50⟩ : ∃ u, ac.tmps.getD 50 undef = u := ⟨_, rfl⟩
        obtain ⟨u51, f51⟩ : ∃ u, ac.tmps.getD 51 undef = u := ⟨_, rfl⟩
        obtain ⟨u52, f52⟩ : ∃ u, ac.tmps.getD 52 undef = u := ⟨_, rfl⟩
        obtain ⟨u53, f53⟩ : ∃ u, ac.tmps.getD 53 undef = u := ⟨_, rfl⟩
        obtain ⟨u54, f54⟩ : ∃ u, ac.tmps.getD 54 undef = u := ⟨_, rfl⟩
        obtain ⟨u55, f55⟩ : ∃ u, ac.tmps.getD 55 undef = u := ⟨_, rfl⟩
        obtain ⟨u56, f56⟩ : ∃ u, ac.tmps.getD 56 undef = u := ⟨_, rfl⟩
        obtain ⟨u57, f57⟩ : ∃ u, ac.tmps.getD 57 undef = u := ⟨_, rfl⟩
        obtain ⟨u58, f58⟩ : ∃ u, ac.tmps.getD 58 undef = u := ⟨_, rfl⟩
        obtain ⟨u59, f59⟩ : ∃ u, ac.tmps.getD 59 undef = u := ⟨_, rfl⟩
        obtain ⟨u60, f60⟩ : ∃ u, ac.tmps.getD 60 undef = u := ⟨_, rfl⟩
        obtain ⟨u61, f61⟩ : ∃ u, ac.tmps.getD 61 undef = u := ⟨_, rfl⟩
        obtain ⟨u62, f62⟩ : ∃ u, ac.tmps.getD 62 undef = u := ⟨_, rfl⟩
        obtain ⟨u63, f63⟩ : ∃ u, ac.tmps.getD 63 undef = u := ⟨_, rfl⟩
        obtain ⟨u64, f64⟩ : ∃ u, ac.tmps.getD 64 undef = u := ⟨_, rfl⟩
        obtain ⟨u65, f65⟩ : ∃ u, ac.tmps.getD 65 undef = u := ⟨_, rfl⟩
        obtain ⟨u66, f66⟩ : ∃ u, ac.tmps.getD 66 undef = u := ⟨_, rfl⟩
        obtain ⟨u67, f67⟩ : ∃ u, ac.tmps.getD 67 undef = u := ⟨_, rfl⟩
        obtain ⟨u68, f68⟩ : ∃ u, ac.tmps.getD 68 undef = u := ⟨_, rfl⟩
        obtain ⟨u69, f69⟩ : ∃ u, ac.tmps.getD 69 undef = u := ⟨_, rfl⟩
        obtain ⟨u70, f70⟩ : ∃ u, ac.tmps.getD 70 undef = u := ⟨_, rfl⟩
        obtain ⟨u71, f71⟩ : ∃ u, ac.tmps.getD 71 undef = u := ⟨_, rfl⟩
        obtain ⟨u72, f72⟩ : ∃ u, ac.tmps.getD 72 undef = u := ⟨_, rfl⟩
        obtain ⟨u73, f73⟩ : ∃ u, ac.tmps.getD 73 undef = u := ⟨_, rfl⟩
        obtain ⟨u74, f74⟩ : ∃ u, ac.tmps.getD 74 undef = u := ⟨_, rfl⟩
        obtain ⟨u75, f75⟩ : ∃ u, ac.tmps.getD 75 undef = u := ⟨_, rfl⟩
        obtain ⟨u76, f76⟩ : ∃ u, ac.tmps.getD 76 undef = u := ⟨_, rfl⟩
        obtain ⟨u77, f77⟩ : ∃ u, ac.tmps.getD 77 undef = u := ⟨_, rfl⟩
        have f78 : ac.tmps.getD 78 undef = .bool false := hJ.at_end 30 78 (by kernel_rfl)
        have hBelow := hJ.below
        obtain ⟨TT, DD⟩ := ac
        obtain rfl : DD = [] := hJ.defers
        have hE := slots_merge [false, false, false, false, false, false, false, false, false, false, false, false, false, false, false, false, false, false, false, false, false, false, false, false, false, false, false, false, false, false, false, false, false, false, false, false, false, false, false, false, false, false, false, false, false, false, false, false, true, true, true, true, true, true, true, true, true, true, true, true, true, true, true, true, true, true, true, true, true, true, true, true, true, true, true, true, true, true, true, false, false, false, false, false, false, false, false, false, false, false, false, false, false, false, false, false, false, false, false, false, false, false, false, false, false, false, false, false, false, false, false, false, false, false, false, false, false, false, false, false, false, false, false, false, false, false, false, false, false, false, false, false, false, false, false, false, false, false, false, false, false, false, false, false, false, false, false, false, false, false, false, false, false, false, false, false, false, false, false, false, false, false, false, false, false, false] 166 hJ.tmps rfl (by kernel_rfl) hJ.outer
        simp only [mergeFrom, Nat.zero_add, Nat.reduceAdd, f48, f49, f50, f51, f52, f53, f54, f55, f56, f57, f58, f59, f60, f61, f62, f63, f64, f65, f66, f67, f68, f69, f70, f71, f72, f73, f74, f75, f76, f77, f78] at hE
        clear hst hJ f48 f49 f50 f51 f52 f53 f54 f55 f56 f57 f58 f59 f60 f61 f62 f63 f64 f65 f66 f67 f68 f69 f70 f71 f72 f73 f74 f75 f76 f77 f78
        subst hE
        have HB9 := Lib.hid (below_then HB8.out hBelow)
        have HI9 := Lib.hid (HI8.out.below hBelow)
        have HW9 := Lib.hid (HW8.out.below HB8.out.size hBelow)
        clear hBelow
        go_wp2
        go_roundw
        case rel => exact ⟨j + 1, lab3, A, by omega, by go_num, HI9.out, HW9.out, Lib.hid ⟨by have := HA.out.1; omega, HA.out.2⟩, HB9.out⟩
        case measure => simp [intOf]; omega
      | true =>
        have HV := Lib.hid hv
        by_cases hin : (p, us) ∈ A
        · have hr := addR_old hv hin
          have HNI := Lib.hid hin
          rw [hr.1, hr.2] at HADD
          clear hr hv hin
          go_wp2_with (first
            | (have _ := HB7.out; go_at_call 16; refine HIN.out.mono ?_; rintro e w8 ⟨rfl, hb8⟩; have HB8 := Lib.hid (below_then HB7.out hb8); have HI8 := Lib.hid (HI7.out.below hb8); have HW8 := Lib.hid (HW7.out.below HB7.out.size hb8); have HX8 := Lib.hid (HX4.out.below HB8.out); clear hb8 x0 x1)
            | (have _ := HB6.out; go_at_call 10; refine HVA.out.mono ?_; rintro e w7 ⟨rfl, hb7⟩; have HB7 := Lib.hid (below_then HB6.out hb7); have HI7 := Lib.hid (HI6.out.below hb7); have HW7 := Lib.hid (HW6.out.below HB6.out.size hb7); clear hb7 x0 x1; have x0 := cell_later HB7.out G0.out; have x1 := cell_later HB7.out G1.out; have HIN := Lib.hid (in_q A (.slice wa A.length wc) (p, us) _ _ true w7 (HW7.out.1.read HB7.out.size) (HX4.out.below HB7.out) ⟨fun _ => HNI.out, fun _ => rfl⟩))
            | (go_at_call 15; refine HADD.out.mono ?_; rintro e w6 ⟨rfl, lab3, hI3, hl3, hs3, hb3⟩; have HI6 := Lib.hid hI3; have HB6 := Lib.hid (HBR.out.trans hb3); have HW6 := Lib.hid (HWA.out.step hs3 hb3 hl3); clear hI3 hl3 hs3 hb3 x0 x1; have x0 := cell_later HB6.out G0.out; have x1 := cell_later HB6.out G1.out; have HVA := Lib.hid (validA_q (p, us) _ _ true w6 (HX4.out.below HB6.out) HCX.out HV.out)))
          clear HADD HWA HBR HB6 HI6 HW6 HVA HB7 HI7 HW7 HIN
          have hst := @FL_grow [fV (.bool false), fV (.bool false), fV (.bool false), fV (.bool false), fV (.int .i64 0), fV (.bool true), fV (.slice (some ⟨g, off, none⟩) L.length cl), fV (.int .i64 j), fV (.pointer (some ⟨g, off + j * 2, none⟩)), fV (.agg #[.string p, .slice ax us.length cx]), fV (.bool true), fV (.bool false), fV (.bool false), fV (.bool false), fV (.bool false), fV (.bool true), fV (.bool true), fV (.pointer (some ⟨S, 0, none⟩)), fV (.slice (some ⟨g, off, none⟩) L.length cl), fV (.int .i64 j), fV (.pointer (some ⟨g, off + j * 2, none⟩)), fV (.agg #[.string p, .slice ax us.length cx]), fV (.bool true), fV (.slice (some ⟨g, off, none⟩) L.length cl), fV (.int .i64 j), fV (.pointer (some ⟨g, off + j * 2, none⟩)), fV (.agg #[.string p, .slice ax us.length cx]), fV (.bool true), fV (.bool false), fV (.bool false), fV (.bool false)] (by
            intro F hF
            simp only [List.mem_cons, List.not_mem_nil, or_false] at hF
            rcases hF with rfl | rfl | rfl | rfl | rfl | rfl | rfl | rfl | rfl | rfl | rfl | rfl | rfl | rfl | rfl | rfl | rfl | rfl | rfl | rfl | rfl | rfl | rfl | rfl | rfl | rfl | rfl | rfl | rfl | rfl | rfl <;> first | exact fV_stays _)
          refine wp_region_grow_orB (by kernel_rfl) (FL [fV (.bool false), fV (.bool false), fV (.bool false), fV (.bool false), fV (.int .i64 0), fV (.bool true), fV (.slice (some ⟨g, off, none⟩) L.length cl), fV (.int .i64 j), fV (.pointer (some ⟨g, off + j * 2, none⟩)), fV (.agg #[.string p, .slice ax us.length cx]), fV (.bool true), fV (.bool false), fV (.bool false), fV (.bool false), fV (.bool false), fV (.bool true), fV (.bool true), fV (.pointer (some ⟨S, 0, none⟩)), fV (.slice (some ⟨g, off, none⟩) L.length cl), fV (.int .i64 j), fV (.pointer (some ⟨g, off + j * 2, none⟩)), fV (.agg #[.string p, .slice ax us.length cx]), fV (.bool true), fV (.slice (some ⟨g, off, none⟩) L.length cl), fV (.int .i64 j), fV (.pointer (some ⟨g, off + j * 2, none⟩)), fV (.agg #[.string p, .slice ax us.length cx]), fV (.bool true), fV (.bool false), fV (.bool false), fV (.bool false)]) hst (by kernel_rfl) (steps_or ?_) ?_
          · refine ⟨?_, ?_, ?_, ?_, ?_, ?_, ?_, ?_, ?_, ?_, ?_, ?_, ?_, ?_, ?_, ?_, ?_, ?_, ?_, ?_, ?_, ?_, ?_, ?_, ?_, ?_, ?_, ?_, ?_, ?_, ?_, trivial⟩
            · intro a wx hb hd hs ho hp
              refine Or.inl ⟨rfl, ?_⟩
              have h6 : a.tmps.getD 6 undef = .bool false := (ho 6 (by kernel_rfl)).trans rfl
              unfold Oper.wp
              go_simp
              exact Stepped.at (v := .bool false) (by first | rfl | simp) hd (Below.refl _ _) rfl
            · intro a wx hb hd hs ho hp
              refine Or.inl ⟨rfl, ?_⟩
              have h8 : a.tmps.getD 8 undef = .bool false := (ho 8 (by kernel_rfl)).trans rfl
              unfold Oper.wp
              go_simp
              exact Stepped.at (v := .bool false) (by first | rfl | simp) hd (Below.refl _ _) rfl
            · intro a wx hb hd hs ho hp
              refine Or.inl ⟨rfl, ?_⟩
              have h48 : a.tmps.getD 48 undef = .bool false := facts_at hp 0 48 (by kernel_rfl)
              have h49 : a.tmps.getD 49 undef = .bool false := facts_at hp 1 49 (by kernel_rfl)
              unfold Oper.wp
              go_simp
              exact Stepped.at (v := .bool false) (by first | rfl | simp) hd (Below.refl _ _) rfl
            · intro a wx hb hd hs ho hp
              refine Or.inl ⟨rfl, ?_⟩
              have h50 : a.tmps.getD 50 undef = .bool false := facts_at hp 2 50 (by kernel_rfl)
              unfold Oper.wp
              go_simp
              exact Stepped.at (v := .bool false) (by first | rfl | simp) hd (Below.refl _ _) rfl
            · intro a wx hb hd hs ho hp
              refine Or.inl ⟨wanted_yes rfl (yielded_at (k := 3) (d := 51) (by kernel_rfl) (show a.tmps.getD 51 undef = _ from facts_at hp 3 51 (by kernel_rfl))), ?_⟩
              have h7 : a.tmps.getD 7 undef = .int .i64 0 := (ho 7 (by kernel_rfl)).trans rfl
              unfold Oper.wp
              go_simp
              exact Stepped.at (v := .int .i64 0) (by first | rfl | simp) hd (Below.refl _ _) rfl
            · intro a wx hb hd hs ho hp
              refine Or.inl ⟨wanted_yes rfl (yielded_at (k := 3) (d := 51) (by kernel_rfl) (show a.tmps.getD 51 undef = _ from facts_at hp 3 51 (by kernel_rfl))), ?_⟩
              have h52 : a.tmps.getD 52 undef = .int .i64 0 := facts_at hp 4 52 (by kernel_rfl)
              unfold Oper.wp
              go_simp
              exact Stepped.at (v := .bool true) (by first | rfl | simp) hd (Below.refl _ _) rfl
            · intro a wx hb hd hs ho hp
              refine Or.inl ⟨wanted_yes rfl (yielded_at (k := 3) (d := 51) (by kernel_rfl) (show a.tmps.getD 51 undef = _ from facts_at hp 3 51 (by kernel_rfl))), ?_⟩
              have h0 : a.tmps.getD 0 undef = .slice (some ⟨g, off, none⟩) L.length cl := (ho 0 (by kernel_rfl)).trans rfl
              unfold Oper.wp
              go_simp
              exact Stepped.at (v := .slice (some ⟨g, off, none⟩) L.length cl) (by first | rfl | simp) hd (Below.refl _ _) rfl
            · intro a wx hb hd hs ho hp
              refine Or.inl ⟨wanted_yes rfl (yielded_at (k := 3) (d := 51) (by kernel_rfl) (show a.tmps.getD 51 undef = _ from facts_at hp 3 51 (by kernel_rfl))), ?_⟩
              have h5 : a.tmps.getD 5 undef = .int .i64 j := (ho 5 (by kernel_rfl)).trans rfl
              unfold Oper.wp
              go_simp
              exact Stepped.at (v := .int .i64 j) (by first | rfl | simp) hd (Below.refl _ _) rfl
            · intro a wx hb hd hs ho hp
              refine Or.inl ⟨wanted_yes rfl (yielded_at (k := 3) (d := 51) (by kernel_rfl) (show a.tmps.getD 51 undef = _ from facts_at hp 3 51 (by kernel_rfl))), ?_⟩
              have h54 : a.tmps.getD 54 undef = .slice (some ⟨g, off, none⟩) L.length cl := facts_at hp 6 54 (by kernel_rfl)
              have h55 : a.tmps.getD 55 undef = .int .i64 j := facts_at hp 7 55 (by kernel_rfl)
              unfold Oper.wp
              go_simp
              exact Stepped.at (v := .pointer (some ⟨g, off + j * 2, none⟩)) (by first | rfl | simp) hd (Below.refl _ _) rfl
            · intro a wx hb hd hs ho hp
              refine Or.inl ⟨wanted_yes rfl (yielded_at (k := 3) (d := 51) (by kernel_rfl) (show a.tmps.getD 51 undef = _ from facts_at hp 3 51 (by kernel_rfl))), ?_⟩
              have h56 : a.tmps.getD 56 undef = .pointer (some ⟨g, off + j * 2, none⟩) := facts_at hp 8 56 (by kernel_rfl)
              have s56 := qslot_of (hs.trans (rfl : _ = 166)) (by decide) h56
              have z0 := cell_later hb (cell_later HB8.out G0.out)
              have z1 := cell_later hb (cell_later HB8.out G1.out)
              unfold Oper.wp
              go_simp
              exact Stepped.at (v := .agg #[.string p, .slice ax us.length cx]) (by first | rfl | simp) hd (Below.refl _ _) rfl
            · intro a wx hb hd hs ho hp
              refine Or.inl ⟨wanted_yes rfl (yielded_at (k := 3) (d := 51) (by kernel_rfl) (show a.tmps.getD 51 undef = _ from facts_at hp 3 51 (by kernel_rfl))), ?_⟩
              have h57 : a.tmps.getD 57 undef = .agg #[.string p, .slice ax us.length cx] := facts_at hp 9 57 (by kernel_rfl)
              unfold Oper.wp
              go_simp
              refine (validA_q (p, us) _ _ true wx (HX8.out.below hb) HCX.out HV.out).mono ?_
              rintro e w9 ⟨rfl, hb9⟩
              exact Stepped.at (v := .bool true) rfl hd (hb9) rfl
            · intro a wx hb hd hs ho hp
              refine Or.inl ⟨wanted_yes rfl (yielded_at (k := 3) (d := 51) (by kernel_rfl) (show a.tmps.getD 51 undef = _ from facts_at hp 3 51 (by kernel_rfl))), ?_⟩
              have h53 : a.tmps.getD 53 undef = .bool true := facts_at hp 5 53 (by kernel_rfl)
              have h58 : a.tmps.getD 58 undef = .bool true := facts_at hp 10 58 (by kernel_rfl)
              unfold Oper.wp
              go_simp
              exact Stepped.at (v := .bool false) (by first | rfl | simp) hd (Below.refl _ _) rfl
            · intro a wx hb hd hs ho hp
              refine Or.inl ⟨rfl, ?_⟩
              have h51 : a.tmps.getD 51 undef = .bool false := facts_at hp 3 51 (by kernel_rfl)
              have h59 : a.tmps.getD 59 undef = .bool false := facts_at hp 11 59 (by kernel_rfl)
              unfold Oper.wp
              go_simp
              exact Stepped.at (v := .bool false) (by first | rfl | simp) hd (Below.refl _ _) rfl
            · intro a wx hb hd hs ho hp
              refine Or.inl ⟨rfl, ?_⟩
              have h60 : a.tmps.getD 60 undef = .bool false := facts_at hp 12 60 (by kernel_rfl)
              unfold Oper.wp
              go_simp
              exact Stepped.at (v := .bool false) (by first | rfl | simp) hd (Below.refl _ _) rfl
            · intro a wx hb hd hs ho hp
              refine Or.inl ⟨wanted_yes rfl (yielded_at (k := 13) (d := 61) (by kernel_rfl) (show a.tmps.getD 61 undef = _ from facts_at hp 13 61 (by kernel_rfl))), ?_⟩
              have h6 : a.tmps.getD 6 undef = .bool false := (ho 6 (by kernel_rfl)).trans rfl
              unfold Oper.wp
              go_simp
              exact Stepped.at (v := .bool false) (by first | rfl | simp) hd (Below.refl _ _) rfl
            · intro a wx hb hd hs ho hp
              refine Or.inl ⟨wanted_yes rfl (yielded_at (k := 13) (d := 61) (by kernel_rfl) (show a.tmps.getD 61 undef = _ from facts_at hp 13 61 (by kernel_rfl))), ?_⟩
              have h62 : a.tmps.getD 62 undef = .bool false := facts_at hp 14 62 (by kernel_rfl)
              unfold Oper.wp
              go_simp
              exact Stepped.at (v := .bool true) (by first | rfl | simp) hd (Below.refl _ _) rfl
            · intro a wx hb hd hs ho hp
              refine Or.inl ⟨wanted_yes rfl (yielded_at (k := 13) (d := 61) (by kernel_rfl) (show a.tmps.getD 61 undef = _ from facts_at hp 13 61 (by kernel_rfl))), ?_⟩
              have h63 : a.tmps.getD 63 undef = .bool true := facts_at hp 15 63 (by kernel_rfl)
              unfold Oper.wp
              go_simp
              exact Stepped.at (v := .bool true) (by first | rfl | simp) hd (Below.refl _ _) rfl
            · intro a wx hb hd hs ho hp
              refine Or.inl ⟨wanted_yes rfl (yielded_at (k := 16) (d := 64) (by kernel_rfl) (show a.tmps.getD 64 undef = _ from facts_at hp 16 64 (by kernel_rfl))), ?_⟩
              have h3 : a.tmps.getD 3 undef = .pointer (some ⟨S, 0, none⟩) := (ho 3 (by kernel_rfl)).trans rfl
              unfold Oper.wp
              go_simp
              exact Stepped.at (v := .pointer (some ⟨S, 0, none⟩)) (by first | rfl | simp) hd (Below.refl _ _) rfl
            · intro a wx hb hd hs ho hp
              refine Or.inl ⟨wanted_yes rfl (yielded_at (k := 16) (d := 64) (by kernel_rfl) (show a.tmps.getD 64 undef = _ from facts_at hp 16 64 (by kernel_rfl))), ?_⟩
              have h0 : a.tmps.getD 0 undef = .slice (some ⟨g, off, none⟩) L.length cl := (ho 0 (by kernel_rfl)).trans rfl
              unfold Oper.wp
              go_simp
              exact Stepped.at (v := .slice (some ⟨g, off, none⟩) L.length cl) (by first | rfl | simp) hd (Below.refl _ _) rfl
            · intro a wx hb hd hs ho hp
              refine Or.inl ⟨wanted_yes rfl (yielded_at (k := 16) (d := 64) (by kernel_rfl) (show a.tmps.getD 64 undef = _ from facts_at hp 16 64 (by kernel_rfl))), ?_⟩
              have h5 : a.tmps.getD 5 undef = .int .i64 j := (ho 5 (by kernel_rfl)).trans rfl
              unfold Oper.wp
              go_simp
              exact Stepped.at (v := .int .i64 j) (by first | rfl | simp) hd (Below.refl _ _) rfl
            · intro a wx hb hd hs ho hp
              refine Or.inl ⟨wanted_yes rfl (yielded_at (k := 16) (d := 64) (by kernel_rfl) (show a.tmps.getD 64 undef = _ from facts_at hp 16 64 (by kernel_rfl))), ?_⟩
              have h66 : a.tmps.getD 66 undef = .slice (some ⟨g, off, none⟩) L.length cl := facts_at hp 18 66 (by kernel_rfl)
              have h67 : a.tmps.getD 67 undef = .int .i64 j := facts_at hp 19 67 (by kernel_rfl)
              unfold Oper.wp
              go_simp
              exact Stepped.at (v := .pointer (some ⟨g, off + j * 2, none⟩)) (by first | rfl | simp) hd (Below.refl _ _) rfl
            · intro a wx hb hd hs ho hp
              refine Or.inl ⟨wanted_yes rfl (yielded_at (k := 16) (d := 64) (by kernel_rfl) (show a.tmps.getD 64 undef = _ from facts_at hp 16 64 (by kernel_rfl))), ?_⟩
              have h68 : a.tmps.getD 68 undef = .pointer (some ⟨g, off + j * 2, none⟩) := facts_at hp 20 68 (by kernel_rfl)
              have s68 := qslot_of (hs.trans (rfl : _ = 166)) (by decide) h68
              have z0 := cell_later hb (cell_later HB8.out G0.out)
              have z1 := cell_later hb (cell_later HB8.out G1.out)
              unfold Oper.wp
              go_simp
              exact Stepped.at (v := .agg #[.string p, .slice ax us.length cx]) (by first | rfl | simp) hd (Below.refl _ _) rfl
            · intro a wx hb hd hs ho hp
              refine Or.inl ⟨wanted_yes rfl (yielded_at (k := 16) (d := 64) (by kernel_rfl) (show a.tmps.getD 64 undef = _ from facts_at hp 16 64 (by kernel_rfl))), ?_⟩
              have h65 : a.tmps.getD 65 undef = .pointer (some ⟨S, 0, none⟩) := facts_at hp 17 65 (by kernel_rfl)
              have h69 : a.tmps.getD 69 undef = .agg #[.string p, .slice ax us.length cx] := facts_at hp 21 69 (by kernel_rfl)
              unfold Oper.wp
              go_simp
              refine (has_q w4.heap.size S lab3 A (p, us) _ _ true wx (HI8.out.below hb) (HX8.out.below hb) HCX.out ⟨fun _ => HNI.out, fun _ => rfl⟩).mono ?_
              rintro e w9 ⟨rfl, hb9⟩
              exact Stepped.at (v := .bool true) rfl hd (hb9) rfl
            · intro a wx hb hd hs ho hp
              refine Or.inl ⟨wanted_yes rfl (yielded_at (k := 16) (d := 64) (by kernel_rfl) (show a.tmps.getD 64 undef = _ from facts_at hp 16 64 (by kernel_rfl))), ?_⟩
              have h0 : a.tmps.getD 0 undef = .slice (some ⟨g, off, none⟩) L.length cl := (ho 0 (by kernel_rfl)).trans rfl
              unfold Oper.wp
              go_simp
              exact Stepped.at (v := .slice (some ⟨g, off, none⟩) L.length cl) (by first | rfl | simp) hd (Below.refl _ _) rfl
            · intro a wx hb hd hs ho hp
              refine Or.inl ⟨wanted_yes rfl (yielded_at (k := 16) (d := 64) (by kernel_rfl) (show a.tmps.getD 64 undef = _ from facts_at hp 16 64 (by kernel_rfl))), ?_⟩
              have h5 : a.tmps.getD 5 undef = .int .i64 j := (ho 5 (by kernel_rfl)).trans rfl
              unfold Oper.wp
              go_simp
              exact Stepped.at (v := .int .i64 j) (by first | rfl | simp) hd (Below.refl _ _) rfl
            · intro a wx hb hd hs ho hp
              refine Or.inl ⟨wanted_yes rfl (yielded_at (k := 16) (d := 64) (by kernel_rfl) (show a.tmps.getD 64 undef = _ from facts_at hp 16 64 (by kernel_rfl))), ?_⟩
              have h71 : a.tmps.getD 71 undef = .slice (some ⟨g, off, none⟩) L.length cl := facts_at hp 23 71 (by kernel_rfl)
              have h72 : a.tmps.getD 72 undef = .int .i64 j := facts_at hp 24 72 (by kernel_rfl)
              unfold Oper.wp
              go_simp
              exact Stepped.at (v := .pointer (some ⟨g, off + j * 2, none⟩)) (by first | rfl | simp) hd (Below.refl _ _) rfl
            · intro a wx hb hd hs ho hp
              refine Or.inl ⟨wanted_yes rfl (yielded_at (k := 16) (d := 64) (by kernel_rfl) (show a.tmps.getD 64 undef = _ from facts_at hp 16 64 (by kernel_rfl))), ?_⟩
              have h73 : a.tmps.getD 73 undef = .pointer (some ⟨g, off + j * 2, none⟩) := facts_at hp 25 73 (by kernel_rfl)
              have s73 := qslot_of (hs.trans (rfl : _ = 166)) (by decide) h73
              have z0 := cell_later hb (cell_later HB8.out G0.out)
              have z1 := cell_later hb (cell_later HB8.out G1.out)
              unfold Oper.wp
              go_simp
              exact Stepped.at (v := .agg #[.string p, .slice ax us.length cx]) (by first | rfl | simp) hd (Below.refl _ _) rfl
            · intro a wx hb hd hs ho hp
              refine Or.inl ⟨wanted_yes rfl (yielded_at (k := 16) (d := 64) (by kernel_rfl) (show a.tmps.getD 64 undef = _ from facts_at hp 16 64 (by kernel_rfl))), ?_⟩
              have h74 : a.tmps.getD 74 undef = .agg #[.string p, .slice ax us.length cx] := facts_at hp 26 74 (by kernel_rfl)
              unfold Oper.wp
              go_simp
              refine (validA_q (p, us) _ _ true wx (HX8.out.below hb) HCX.out HV.out).mono ?_
              rintro e w9 ⟨rfl, hb9⟩
              exact Stepped.at (v := .bool true) rfl hd (hb9) rfl
            · intro a wx hb hd hs ho hp
              refine Or.inl ⟨wanted_yes rfl (yielded_at (k := 16) (d := 64) (by kernel_rfl) (show a.tmps.getD 64 undef = _ from facts_at hp 16 64 (by kernel_rfl))), ?_⟩
              have h70 : a.tmps.getD 70 undef = .bool true := facts_at hp 22 70 (by kernel_rfl)
              have h75 : a.tmps.getD 75 undef = .bool true := facts_at hp 27 75 (by kernel_rfl)
              unfold Oper.wp
              go_simp
              exact Stepped.at (v := .bool false) (by first | rfl | simp) hd (Below.refl _ _) rfl
            · intro a wx hb hd hs ho hp
              refine Or.inl ⟨wanted_yes rfl (yielded_at (k := 13) (d := 61) (by kernel_rfl) (show a.tmps.getD 61 undef = _ from facts_at hp 13 61 (by kernel_rfl))), ?_⟩
              have h64 : a.tmps.getD 64 undef = .bool true := facts_at hp 16 64 (by kernel_rfl)
              have h76 : a.tmps.getD 76 undef = .bool false := facts_at hp 28 76 (by kernel_rfl)
              unfold Oper.wp
              go_simp
              exact Stepped.at (v := .bool false) (by first | rfl | simp) hd (Below.refl _ _) rfl
            · intro a wx hb hd hs ho hp
              refine Or.inl ⟨rfl, ?_⟩
              have h61 : a.tmps.getD 61 undef = .bool false := facts_at hp 13 61 (by kernel_rfl)
              have h77 : a.tmps.getD 77 undef = .bool false := facts_at hp 29 77 (by kernel_rfl)
              unfold Oper.wp
              go_simp
              exact Stepped.at (v := .bool false) (by first | rfl | simp) hd (Below.refl _ _) rfl
          intro ac W9 hJ
          obtain ⟨u48, f48⟩ : ∃ u, ac.tmps.getD 48 undef = u := ⟨_, rfl⟩
          obtain ⟨u49, f49⟩ : ∃ u, ac.tmps.getD 49 undef = u := ⟨_, rfl⟩
          obtain ⟨u50, f50⟩ : ∃ u, ac.tmps.getD 50 undef = u := ⟨_, rfl⟩
          obtain ⟨u51, f51⟩ : ∃ u, ac.tmps.getD 51 undef = u := ⟨_, rfl⟩
          obtain ⟨u52, f52⟩ : ∃ u, ac.tmps.getD 52 undef = u := ⟨_, rfl⟩
          obtain ⟨u53, f53⟩ : ∃ u, ac.tmps.getD 53 undef = u := ⟨_, rfl⟩
          obtain ⟨u54, f54⟩ : ∃ u, ac.tmps.getD 54 undef = u := ⟨_, rfl⟩
          obtain ⟨u55, f55⟩ : ∃ u, ac.tmps.getD 55 undef = u := ⟨_, rfl⟩
          obtain ⟨u56, f56⟩ : ∃ u, ac.tmps.getD 56 undef = u := ⟨_, rfl⟩
          obtain ⟨u57, f57⟩ : ∃ u, ac.tmps.getD 57 undef = u := ⟨_, rfl⟩
          obtain ⟨u58, f58⟩ : ∃ u, ac.tmps.getD 58 undef = u := ⟨_, rfl⟩
          obtain ⟨u59, f59⟩ : ∃ u, ac.tmps.getD 59 undef = u := ⟨_, rfl⟩
          obtain ⟨u60, f60⟩ : ∃ u, ac.tmps.getD 60 undef = u := ⟨_, rfl⟩
          obtain ⟨u61, f61⟩ : ∃ u, ac.tmps.getD 61 undef = u := ⟨_, rfl⟩
          obtain ⟨u62, f62⟩ : ∃ u, ac.tmps.getD 62 undef = u := ⟨_, rfl⟩
          obtain ⟨u63, f63⟩ : ∃ u, ac.tmps.getD 63 undef = u := ⟨_, rfl⟩
          obtain ⟨u64, f64⟩ : ∃ u, ac.tmps.getD 64 undef = u := ⟨_, rfl⟩
          obtain ⟨u65, f65⟩ : ∃ u, ac.tmps.getD 65 undef = u := ⟨_, rfl⟩
          obtain ⟨u66, f66⟩ : ∃ u, ac.tmps.getD 66 undef = u := ⟨_, rfl⟩
          obtain ⟨u67, f67⟩ : ∃ u, ac.tmps.getD 67 undef = u := ⟨_, rfl⟩
          obtain ⟨u68, f68⟩ : ∃ u, ac.tmps.getD 68 undef = u := ⟨_, rfl⟩
          obtain ⟨u69, f69⟩ : ∃ u, ac.tmps.getD 69 undef = u := ⟨_, rfl⟩
          obtain ⟨u70, f70⟩ : ∃ u, ac.tmps.getD 70 undef = u := ⟨_, rfl⟩
          obtain ⟨u71, f71⟩ : ∃ u, ac.tmps.getD 71 undef = u := ⟨_, rfl⟩
          obtain ⟨u72, f72⟩ : ∃ u, ac.tmps.getD 72 undef = u := ⟨_, rfl⟩
          obtain ⟨u73, f73⟩ : ∃ u, ac.tmps.getD 73 undef = u := ⟨_, rfl⟩
          obtain ⟨u74, f74⟩ : ∃ u, ac.tmps.getD 74 undef = u := ⟨_, rfl⟩
          obtain ⟨u75, f75⟩ : ∃ u, ac.tmps.getD 75 undef = u := ⟨_, rfl⟩
          obtain ⟨u76, f76⟩ : ∃ u, ac.tmps.getD 76 undef = u := ⟨_, rfl⟩
          obtain ⟨u77, f77⟩ : ∃ u, ac.tmps.getD 77 undef = u := ⟨_, rfl⟩
          have f78 : ac.tmps.getD 78 undef = .bool false := hJ.at_end 30 78 (by kernel_rfl)
          have hBelow := hJ.below
          obtain ⟨TT, DD⟩ := ac
          obtain rfl : DD = [] := hJ.defers
          have hE := slots_merge [false, false, false, false, false, false, false, false, false, false, false, false, false, false, false, false, false, false, false, false, false, false, false, false, false, false, false, false, false, false, false, false, false, false, false, false, false, false, false, false, false, false, false, false, false, false, false, false, true, true, true, true, true, true, true, true, true, true, true, true, true, true, true, true, true, true, true, true, true, true, true, true, true, true, true, true, true, true, true, false, false, false, false, false, false, false, false, false, false, false, false, false, false, false, false, false, false, false, false, false, false, false, false, false, false, false, false, false, false, false, false, false, false, false, false, false, false, false, false, false, false, false, false, false, false, false, false, false, false, false, false, false, false, false, false, false, false, false, false, false, false, false, false, false, false, false, false, false, false, false, false, false, false, false, false, false, false, false, false, false, false, false, false, false, false, false] 166 hJ.tmps rfl (by kernel_rfl) hJ.outer
          simp only [mergeFrom, Nat.zero_add, Nat.reduceAdd, f48, f49, f50, f51, f52, f53, f54, f55, f56, f57, f58, f59, f60, f61, f62, f63, f64, f65, f66, f67, f68, f69, f70, f71, f72, f73, f74, f75, f76, f77, f78] at hE
          clear hst hJ f48 f49 f50 f51 f52 f53 f54 f55 f56 f57 f58 f59 f60 f61 f62 f63 f64 f65 f66 f67 f68 f69 f70 f71 f72 f73 f74 f75 f76 f77 f78
          subst hE
          have HB9 := Lib.hid (below_then HB8.out hBelow)
          have HI9 := Lib.hid (HI8.out.below hBelow)
          have HW9 := Lib.hid (HW8.out.below HB8.out.size hBelow)
          clear hBelow
          go_wp2
          go_roundw
          case rel => exact ⟨j + 1, lab3, A, by omega, by go_num, HI9.out, HW9.out, Lib.hid ⟨by have := HA.out.1; omega, HA.out.2⟩, HB9.out⟩
          case measure => simp [intOf]; omega
        · have hr := addR_new hv hin (by have := HAL.out; omega)
          have HNI := Lib.hid hin
          have HNJ := Lib.hid (show (true = true ↔ (p, us) ∈ A ++ [(p, us)]) from ⟨fun _ => by simp, fun _ => rfl⟩)
          rw [hr.1, hr.2] at HADD
          clear hr hv hin
          go_wp2_with (first
            | (have _ := HB7.out; go_at_call 16; refine HIN.out.mono ?_; rintro e w8 ⟨rfl, hb8⟩; have HB8 := Lib.hid (below_then HB7.out hb8); have HI8 := Lib.hid (HI7.out.below hb8); have HW8 := Lib.hid (HW7.out.below HB7.out.size hb8); have HX8 := Lib.hid (HX4.out.below HB8.out); clear hb8 x0 x1)
            | (have _ := HB6.out; go_at_call 10; refine HVA.out.mono ?_; rintro e w7 ⟨rfl, hb7⟩; have HB7 := Lib.hid (below_then HB6.out hb7); have HI7 := Lib.hid (HI6.out.below hb7); have HW7 := Lib.hid (HW6.out.below HB6.out.size hb7); clear hb7 x0 x1; have x0 := cell_later HB7.out G0.out; have x1 := cell_later HB7.out G1.out; have HIN := Lib.hid (in_q A (.slice wa A.length wc) (p, us) _ _ false w7 (HW7.out.1.read HB7.out.size) (HX4.out.below HB7.out) ⟨fun e => (by cases e), fun h => absurd h HNI.out⟩))
            | (go_at_call 15; refine HADD.out.mono ?_; rintro e w6 ⟨rfl, lab3, hI3, hl3, hs3, hb3⟩; have HI6 := Lib.hid hI3; have HB6 := Lib.hid (HBR.out.trans hb3); have HW6 := Lib.hid (HWA.out.step hs3 hb3 hl3); clear hI3 hl3 hs3 hb3 x0 x1; have x0 := cell_later HB6.out G0.out; have x1 := cell_later HB6.out G1.out; have HVA := Lib.hid (validA_q (p, us) _ _ true w6 (HX4.out.below HB6.out) HCX.out HV.out)))
          clear HADD HWA HBR HB6 HI6 HW6 HVA HB7 HI7 HW7 HIN
          have hst := @FL_grow [fV (.bool true), fV (.bool true), fV (.bool false), fV (.bool false), fV (.int .i64 0), fV (.bool true), fV (.slice (some ⟨g, off, none⟩) L.length cl), fV (.int .i64 j), fV (.pointer (some ⟨g, off + j * 2, none⟩)), fV (.agg #[.string p, .slice ax us.length cx]), fV (.bool true), fV (.bool false), fV (.bool false), fV (.bool false), fV (.bool true), fV (.bool false), fV (.bool false), fV undef, fV undef, fV undef, fV undef, fV undef, fV undef, fV undef, fV undef, fV undef, fV undef, fV undef, fV undef, fV (.bool false), fV (.bool false)] (by
            intro F hF
            simp only [List.mem_cons, List.not_mem_nil, or_false] at hF
            rcases hF with rfl | rfl | rfl | rfl | rfl | rfl | rfl | rfl | rfl | rfl | rfl | rfl | rfl | rfl | rfl | rfl | rfl | rfl | rfl | rfl | rfl | rfl | rfl | rfl | rfl | rfl | rfl | rfl | rfl | rfl | rfl <;> first | exact fV_stays _)
          refine wp_region_grow_orB (by kernel_rfl) (FL [fV (.bool true), fV (.bool true), fV (.bool false), fV (.bool false), fV (.int .i64 0), fV (.bool true), fV (.slice (some ⟨g, off, none⟩) L.length cl), fV (.int .i64 j), fV (.pointer (some ⟨g, off + j * 2, none⟩)), fV (.agg #[.string p, .slice ax us.length cx]), fV (.bool true), fV (.bool false), fV (.bool false), fV (.bool false), fV (.bool true), fV (.bool false), fV (.bool false), fV undef, fV undef, fV undef, fV undef, fV undef, fV undef, fV undef, fV undef, fV undef, fV undef, fV undef, fV undef, fV (.bool false), fV (.bool false)]) hst (by kernel_rfl) (steps_or ?_) ?_
          · refine ⟨?_, ?_, ?_, ?_, ?_, ?_, ?_, ?_, ?_, ?_, ?_, ?_, ?_, ?_, ?_, ?_, ?_, ?_, ?_, ?_, ?_, ?_, ?_, ?_, ?_, ?_, ?_, ?_, ?_, ?_, ?_, trivial⟩
            · intro a wx hb hd hs ho hp
              refine Or.inl ⟨rfl, ?_⟩
              have h6 : a.tmps.getD 6 undef = .bool true := (ho 6 (by kernel_rfl)).trans rfl
              unfold Oper.wp
              go_simp
              exact Stepped.at (v := .bool true) (by first | rfl | simp) hd (Below.refl _ _) rfl
            · intro a wx hb hd hs ho hp
              refine Or.inl ⟨rfl, ?_⟩
              have h8 : a.tmps.getD 8 undef = .bool true := (ho 8 (by kernel_rfl)).trans rfl
              unfold Oper.wp
              go_simp
              exact Stepped.at (v := .bool true) (by first | rfl | simp) hd (Below.refl _ _) rfl
            · intro a wx hb hd hs ho hp
              refine Or.inl ⟨rfl, ?_⟩
              have h48 : a.tmps.getD 48 undef = .bool true := facts_at hp 0 48 (by kernel_rfl)
              have h49 : a.tmps.getD 49 undef = .bool true := facts_at hp 1 49 (by kernel_rfl)
              unfold Oper.wp
              go_simp
              exact Stepped.at (v := .bool false) (by first | rfl | simp) hd (Below.refl _ _) rfl
            · intro a wx hb hd hs ho hp
              refine Or.inl ⟨rfl, ?_⟩
              have h50 : a.tmps.getD 50 undef = .bool false := facts_at hp 2 50 (by kernel_rfl)
              unfold Oper.wp
              go_simp
              exact Stepped.at (v := .bool false) (by first | rfl | simp) hd (Below.refl _ _) rfl
            · intro a wx hb hd hs ho hp
              refine Or.inl ⟨wanted_yes rfl (yielded_at (k := 3) (d := 51) (by kernel_rfl) (show a.tmps.getD 51 undef = _ from facts_at hp 3 51 (by kernel_rfl))), ?_⟩
              have h7 : a.tmps.getD 7 undef = .int .i64 0 := (ho 7 (by kernel_rfl)).trans rfl
              unfold Oper.wp
              go_simp
              exact Stepped.at (v := .int .i64 0) (by first | rfl | simp) hd (Below.refl _ _) rfl
            · intro a wx hb hd hs ho hp
              refine Or.inl ⟨wanted_yes rfl (yielded_at (k := 3) (d := 51) (by kernel_rfl) (show a.tmps.getD 51 undef = _ from facts_at hp 3 51 (by kernel_rfl))), ?_⟩
              have h52 : a.tmps.getD 52 undef = .int .i64 0 := facts_at hp 4 52 (by kernel_rfl)
              unfold Oper.wp
              go_simp
              exact Stepped.at (v := .bool true) (by first | rfl | simp) hd (Below.refl _ _) rfl
            · intro a wx hb hd hs ho hp
              refine Or.inl ⟨wanted_yes rfl (yielded_at (k := 3) (d := 51) (by kernel_rfl) (show a.tmps.getD 51 undef = _ from facts_at hp 3 51 (by kernel_rfl))), ?_⟩
              have h0 : a.tmps.getD 0 undef = .slice (some ⟨g, off, none⟩) L.length cl := (ho 0 (by kernel_rfl)).trans rfl
              unfold Oper.wp
              go_simp
              exact Stepped.at (v := .slice (some ⟨g, off, none⟩) L.length cl) (by first | rfl | simp) hd (Below.refl _ _) rfl
            · intro a wx hb hd hs ho hp
              refine Or.inl ⟨wanted_yes rfl (yielded_at (k := 3) (d := 51) (by kernel_rfl) (show a.tmps.getD 51 undef = _ from facts_at hp 3 51 (by kernel_rfl))), ?_⟩
              have h5 : a.tmps.getD 5 undef = .int .i64 j := (ho 5 (by kernel_rfl)).trans rfl
              unfold Oper.wp
              go_simp
              exact Stepped.at (v := .int .i64 j) (by first | rfl | simp) hd (Below.refl _ _) rfl
            · intro a wx hb hd hs ho hp
              refine Or.inl ⟨wanted_yes rfl (yielded_at (k := 3) (d := 51) (by kernel_rfl) (show a.tmps.getD 51 undef = _ from facts_at hp 3 51 (by kernel_rfl))), ?_⟩
              have h54 : a.tmps.getD 54 undef = .slice (some ⟨g, off, none⟩) L.length cl := facts_at hp 6 54 (by kernel_rfl)
              have h55 : a.tmps.getD 55 undef = .int .i64 j := facts_at hp 7 55 (by kernel_rfl)
              unfold Oper.wp
              go_simp
              exact Stepped.at (v := .pointer (some ⟨g, off + j * 2, none⟩)) (by first | rfl | simp) hd (Below.refl _ _) rfl
            · intro a wx hb hd hs ho hp
              refine Or.inl ⟨wanted_yes rfl (yielded_at (k := 3) (d := 51) (by kernel_rfl) (show a.tmps.getD 51 undef = _ from facts_at hp 3 51 (by kernel_rfl))), ?_⟩
              have h56 : a.tmps.getD 56 undef = .pointer (some ⟨g, off + j * 2, none⟩) := facts_at hp 8 56 (by kernel_rfl)
              have s56 := qslot_of (hs.trans (rfl : _ = 166)) (by decide) h56
              have z0 := cell_later hb (cell_later HB8.out G0.out)
              have z1 := cell_later hb (cell_later HB8.out G1.out)
              unfold Oper.wp
              go_simp
              exact Stepped.at (v := .agg #[.string p, .slice ax us.length cx]) (by first | rfl | simp) hd (Below.refl _ _) rfl
            · intro a wx hb hd hs ho hp
              refine Or.inl ⟨wanted_yes rfl (yielded_at (k := 3) (d := 51) (by kernel_rfl) (show a.tmps.getD 51 undef = _ from facts_at hp 3 51 (by kernel_rfl))), ?_⟩
              have h57 : a.tmps.getD 57 undef = .agg #[.string p, .slice ax us.length cx] := facts_at hp 9 57 (by kernel_rfl)
              unfold Oper.wp
              go_simp
              refine (validA_q (p, us) _ _ true wx (HX8.out.below hb) HCX.out HV.out).mono ?_
              rintro e w9 ⟨rfl, hb9⟩
              exact Stepped.at (v := .bool true) rfl hd (hb9) rfl
            · intro a wx hb hd hs ho hp
              refine Or.inl ⟨wanted_yes rfl (yielded_at (k := 3) (d := 51) (by kernel_rfl) (show a.tmps.getD 51 undef = _ from facts_at hp 3 51 (by kernel_rfl))), ?_⟩
              have h53 : a.tmps.getD 53 undef = .bool true := facts_at hp 5 53 (by kernel_rfl)
              have h58 : a.tmps.getD 58 undef = .bool true := facts_at hp 10 58 (by kernel_rfl)
              unfold Oper.wp
              go_simp
              exact Stepped.at (v := .bool false) (by first | rfl | simp) hd (Below.refl _ _) rfl
            · intro a wx hb hd hs ho hp
              refine Or.inl ⟨rfl, ?_⟩
              have h51 : a.tmps.getD 51 undef = .bool false := facts_at hp 3 51 (by kernel_rfl)
              have h59 : a.tmps.getD 59 undef = .bool false := facts_at hp 11 59 (by kernel_rfl)
              unfold Oper.wp
              go_simp
              exact Stepped.at (v := .bool false) (by first | rfl | simp) hd (Below.refl _ _) rfl
            · intro a wx hb hd hs ho hp
              refine Or.inl ⟨rfl, ?_⟩
              have h60 : a.tmps.getD 60 undef = .bool false := facts_at hp 12 60 (by kernel_rfl)
              unfold Oper.wp
              go_simp
              exact Stepped.at (v := .bool false) (by first | rfl | simp) hd (Below.refl _ _) rfl
            · intro a wx hb hd hs ho hp
              refine Or.inl ⟨wanted_yes rfl (yielded_at (k := 13) (d := 61) (by kernel_rfl) (show a.tmps.getD 61 undef = _ from facts_at hp 13 61 (by kernel_rfl))), ?_⟩
              have h6 : a.tmps.getD 6 undef = .bool true := (ho 6 (by kernel_rfl)).trans rfl
              unfold Oper.wp
              go_simp
              exact Stepped.at (v := .bool true) (by first | rfl | simp) hd (Below.refl _ _) rfl
            · intro a wx hb hd hs ho hp
              refine Or.inl ⟨wanted_yes rfl (yielded_at (k := 13) (d := 61) (by kernel_rfl) (show a.tmps.getD 61 undef = _ from facts_at hp 13 61 (by kernel_rfl))), ?_⟩
              have h62 : a.tmps.getD 62 undef = .bool true := facts_at hp 14 62 (by kernel_rfl)
              unfold Oper.wp
              go_simp
              exact Stepped.at (v := .bool false) (by first | rfl | simp) hd (Below.refl _ _) rfl
            · intro a wx hb hd hs ho hp
              refine Or.inl ⟨wanted_yes rfl (yielded_at (k := 13) (d := 61) (by kernel_rfl) (show a.tmps.getD 61 undef = _ from facts_at hp 13 61 (by kernel_rfl))), ?_⟩
              have h63 : a.tmps.getD 63 undef = .bool false := facts_at hp 15 63 (by kernel_rfl)
              unfold Oper.wp
              go_simp
              exact Stepped.at (v := .bool false) (by first | rfl | simp) hd (Below.refl _ _) rfl
            · intro a wx hb hd hs ho hp
              exact Or.inr ⟨wanted_no rfl (yielded_at (k := 16) (d := 64) (by kernel_rfl) (show a.tmps.getD 64 undef = _ from facts_at hp 16 64 (by kernel_rfl))), fun _ _ => rfl⟩
            · intro a wx hb hd hs ho hp
              exact Or.inr ⟨wanted_no rfl (yielded_at (k := 16) (d := 64) (by kernel_rfl) (show a.tmps.getD 64 undef = _ from facts_at hp 16 64 (by kernel_rfl))), fun _ _ => rfl⟩
            · intro a wx hb hd hs ho hp
              exact Or.inr ⟨wanted_no rfl (yielded_at (k := 16) (d := 64) (by kernel_rfl) (show a.tmps.getD 64 undef = _ from facts_at hp 16 64 (by kernel_rfl))), fun _ _ => rfl⟩
            · intro a wx hb hd hs ho hp
              exact Or.inr ⟨wanted_no rfl (yielded_at (k := 16) (d := 64) (by kernel_rfl) (show a.tmps.getD 64 undef = _ from facts_at hp 16 64 (by kernel_rfl))), fun _ _ => rfl⟩
            · intro a wx hb hd hs ho hp
              exact Or.inr ⟨wanted_no rfl (yielded_at (k := 16) (d := 64) (by kernel_rfl) (show a.tmps.getD 64 undef = _ from facts_at hp 16 64 (by kernel_rfl))), fun _ _ => rfl⟩
            · intro a wx hb hd hs ho hp
              exact Or.inr ⟨wanted_no rfl (yielded_at (k := 16) (d := 64) (by kernel_rfl) (show a.tmps.getD 64 undef = _ from facts_at hp 16 64 (by kernel_rfl))), fun _ _ => rfl⟩
            · intro a wx hb hd hs ho hp
              exact Or.inr ⟨wanted_no rfl (yielded_at (k := 16) (d := 64) (by kernel_rfl) (show a.tmps.getD 64 undef = _ from facts_at hp 16 64 (by kernel_rfl))), fun _ _ => rfl⟩
            · intro a wx hb hd hs ho hp
              exact Or.inr ⟨wanted_no rfl (yielded_at (k := 16) (d := 64) (by kernel_rfl) (show a.tmps.getD 64 undef = _ from facts_at hp 16 64 (by kernel_rfl))), fun _ _ => rfl⟩
            · intro a wx hb hd hs ho hp
              exact Or.inr ⟨wanted_no rfl (yielded_at (k := 16) (d := 64) (by kernel_rfl) (show a.tmps.getD 64 undef = _ from facts_at hp 16 64 (by kernel_rfl))), fun _ _ => rfl⟩
            · intro a wx hb hd hs ho hp
              exact Or.inr ⟨wanted_no rfl (yielded_at (k := 16) (d := 64) (by kernel_rfl) (show a.tmps.getD 64 undef = _ from facts_at hp 16 64 (by kernel_rfl))), fun _ _ => rfl⟩
            · intro a wx hb hd hs ho hp
              exact Or.inr ⟨wanted_no rfl (yielded_at (k := 16) (d := 64) (by kernel_rfl) (show a.tmps.getD 64 undef = _ from facts_at hp 16 64 (by kernel_rfl))), fun _ _ => rfl⟩
            · intro a wx hb hd hs ho hp
              exact Or.inr ⟨wanted_no rfl (yielded_at (k := 16) (d := 64) (by kernel_rfl) (show a.tmps.getD 64 undef = _ from facts_at hp 16 64 (by kernel_rfl))), fun _ _ => rfl⟩
            · intro a wx hb hd hs ho hp
              refine Or.inl ⟨wanted_yes rfl (yielded_at (k := 13) (d := 61) (by kernel_rfl) (show a.tmps.getD 61 undef = _ from facts_at hp 13 61 (by kernel_rfl))), ?_⟩
              have h64 : a.tmps.getD 64 undef = .bool false := facts_at hp 16 64 (by kernel_rfl)
              have h76 : a.tmps.getD 76 undef = undef := facts_at hp 28 76 (by kernel_rfl)
              unfold Oper.wp
              go_simp
              exact Stepped.at (v := .bool false) (by first | rfl | simp) hd (Below.refl _ _) rfl
            · intro a wx hb hd hs ho hp
              refine Or.inl ⟨rfl, ?_⟩
              have h61 : a.tmps.getD 61 undef = .bool false := facts_at hp 13 61 (by kernel_rfl)
              have h77 : a.tmps.getD 77 undef = .bool false := facts_at hp 29 77 (by kernel_rfl)
              unfold Oper.wp
              go_simp
              exact Stepped.at (v := .bool false) (by first | rfl | simp) hd (Below.refl _ _) rfl
          intro ac W9 hJ
          obtain ⟨u48, f48⟩ : ∃ u, ac.tmps.getD 48 undef = u := ⟨_, rfl⟩
          obtain ⟨u49, f49⟩ : ∃ u, ac.tmps.getD 49 undef = u := ⟨_, rfl⟩
          obtain ⟨u50, f50⟩ : ∃ u, ac.tmps.getD 50 undef = u := ⟨_, rfl⟩
          obtain ⟨u51, f51⟩ : ∃ u, ac.tmps.getD 51 undef = u := ⟨_, rfl⟩
          obtain ⟨u52, f52⟩ : ∃ u, ac.tmps.getD 52 undef = u := ⟨_, rfl⟩
          obtain ⟨u53, f53⟩ : ∃ u, ac.tmps.getD 53 undef = u := ⟨_, rfl⟩
          obtain ⟨u54, f54⟩ : ∃ u, ac.tmps.getD 54 undef = u := ⟨_, rfl⟩
          obtain ⟨u55, f55⟩ : ∃ u, ac.tmps.getD 55 undef = u := ⟨_, rfl⟩
          obtain ⟨u56, f56⟩ : ∃ u, ac.tmps.getD 56 undef = u := ⟨_, rfl⟩
          obtain ⟨u57, f57⟩ : ∃ u, ac.tmps.getD 57 undef = u := ⟨_, rfl⟩
          obtain ⟨u58, f58⟩ : ∃ u, ac.tmps.getD 58 undef = u := ⟨_, rfl⟩
          obtain ⟨u59, f59⟩ : ∃ u, ac.tmps.getD 59 undef = u := ⟨_, rfl⟩
          obtain ⟨u60, f60⟩ : ∃ u, ac.tmps.getD 60 undef = u := ⟨_, rfl⟩
          obtain ⟨u61, f61⟩ : ∃ u, ac.tmps.getD 61 undef = u := ⟨_, rfl⟩
          obtain ⟨u62, f62⟩ : ∃ u, ac.tmps.getD 62 undef = u := ⟨_, rfl⟩
          obtain ⟨u63, f63⟩ : ∃ u, ac.tmps.getD 63 undef = u := ⟨_, rfl⟩
          obtain ⟨u64, f64⟩ : ∃ u, ac.tmps.getD 64 undef = u := ⟨_, rfl⟩
          obtain ⟨u65, f65⟩ : ∃ u, ac.tmps.getD 65 undef = u := ⟨_, rfl⟩
          obtain ⟨u66, f66⟩ : ∃ u, ac.tmps.getD 66 undef = u := ⟨_, rfl⟩
          obtain ⟨u67, f67⟩ : ∃ u, ac.tmps.getD 67 undef = u := ⟨_, rfl⟩
          obtain ⟨u68, f68⟩ : ∃ u, ac.tmps.getD 68 undef = u := ⟨_, rfl⟩
          obtain ⟨u69, f69⟩ : ∃ u, ac.tmps.getD 69 undef = u := ⟨_, rfl⟩
          obtain ⟨u70, f70⟩ : ∃ u, ac.tmps.getD 70 undef = u := ⟨_, rfl⟩
          obtain ⟨u71, f71⟩ : ∃ u, ac.tmps.getD 71 undef = u := ⟨_, rfl⟩
          obtain ⟨u72, f72⟩ : ∃ u, ac.tmps.getD 72 undef = u := ⟨_, rfl⟩
          obtain ⟨u73, f73⟩ : ∃ u, ac.tmps.getD 73 undef = u := ⟨_, rfl⟩
          obtain ⟨u74, f74⟩ : ∃ u, ac.tmps.getD 74 undef = u := ⟨_, rfl⟩
          obtain ⟨u75, f75⟩ : ∃ u, ac.tmps.getD 75 undef = u := ⟨_, rfl⟩
          obtain ⟨u76, f76⟩ : ∃ u, ac.tmps.getD 76 undef = u := ⟨_, rfl⟩
          obtain ⟨u77, f77⟩ : ∃ u, ac.tmps.getD 77 undef = u := ⟨_, rfl⟩
          have f78 : ac.tmps.getD 78 undef = .bool false := hJ.at_end 30 78 (by kernel_rfl)
          have hBelow := hJ.below
          obtain ⟨TT, DD⟩ := ac
          obtain rfl : DD = [] := hJ.defers
          have hE := slots_merge [false, false, false, false, false, false, false, false, false, false, false, false, false, false, false, false, false, false, false, false, false, false, false, false, false, false, false, false, false, false, false, false, false, false, false, false, false, false, false, false, false, false, false, false, false, false, false, false, true, true, true, true, true, true, true, true, true, true, true, true, true, true, true, true, true, true, true, true, true, true, true, true, true, true, true, true, true, true, true, false, false, false, false, false, false, false, false, false, false, false, false, false, false, false, false, false, false, false, false, false, false, false, false, false, false, false, false, false, false, false, false, false, false, false, false, false, false, false, false, false, false, false, false, false, false, false, false, false, false, false, false, false, false, false, false, false, false, false, false, false, false, false, false, false, false, false, false, false, false, false, false, false, false, false, false, false, false, false, false, false, false, false, false, false, false, false] 166 hJ.tmps rfl (by kernel_rfl) hJ.outer
          simp only [mergeFrom, Nat.zero_add, Nat.reduceAdd, f48, f49, f50, f51, f52, f53, f54, f55, f56, f57, f58, f59, f60, f61, f62, f63, f64, f65, f66, f67, f68, f69, f70, f71, f72, f73, f74, f75, f76, f77, f78] at hE
          clear hst hJ f48 f49 f50 f51 f52 f53 f54 f55 f56 f57 f58 f59 f60 f61 f62 f63 f64 f65 f66 f67 f68 f69 f70 f71 f72 f73 f74 f75 f76 f77 f78
          subst hE
          have HB9 := Lib.hid (below_then HB8.out hBelow)
          have HI9 := Lib.hid (HI8.out.below hBelow)
          have HW9 := Lib.hid (HW8.out.below HB8.out.size hBelow)
          have x0 := cell_later HB9.out G0.out
          have x1 := cell_later HB9.out G1.out
          obtain ⟨⟨xs, ho, hf⟩, hlab⟩ := HW9.out
          have HO := Lib.hid ho
          have HF := Lib.hid hf
          have HLA := Lib.hid hlab
          have HONE := Lib.hid (row2_one HX4.out)
          obtain ⟨i0, hi, hz0, hz1, hz2⟩ := info_parts' (show (Tryz.prog.info? 24).map (fun i => (i.zero, i.size, i.bytes)) = some (some (.agg #[.string ⟨#[]⟩, .slice none 0 0]), 2, 40) by kernel_rfl)
          clear hBelow ho hf hlab
          go_wp2_with (at_builtin; refine wpList_append_own_at _ rfl _ _ 26 rfl w4.heap.size 24 i0 _ 2 40 Tryz.underlying26 hi hz0 hz1 hz2 rfl (by decide) (.slice wa A.length wc) A.length xs rfl ?c0 _ 1 1 [.string p, .slice ax us.length cx] rfl rfl ?c1 ?c2 ?c3 ?c4 ?c5 ?_)
          case c0 => exact own_grown' HO.out ((Below.refl _ _).alloc (Nat.le_refl _) _)
          case c1 =>
            intro jj u' hu'
            have hn := World.alloc_heap_new W9 (.cells #[.string p, .slice ax us.length cx] 24)
            rcases jj with _ | _ | jj
            · cases hu'; exact cells_at hn 0 _ rfl
            · cases hu'; exact cells_at hn 1 _ rfl
            · simp at hu'
          case c2 => exact HONE.out
          case c3 => have := HAL.out; unfold maxLen; omega
          case c4 => have := HAL.out; omega
          case c5 => have := HB9.out.size; simp; omega
          intro v' w' hown' hgrow _ hat
          obtain ⟨WN, hWN⟩ : ∃ X, W9.alloc (.cells #[.string p, .slice ax us.length cx] 24) = X := ⟨_, rfl⟩
          have hbN : Below W9.heap.size W9 WN := by rw [← hWN]; exact (Below.refl _ _).alloc (Nat.le_refl _) _
          rw [hWN] at hgrow
          have hst : Stp lab3 (fun l => l = .oth) W9 w' := (Stp.of_below hbN).trans (grown_stp hgrow (fun b e => HLA.out b e)) (fun _ _ => rfl)
          have hat' : v'.ownBlock = (Value.slice wa A.length wc).ownBlock ∨ ∃ g, v'.ownBlock = some g ∧ W9.heap.size ≤ g := hat.imp id fun e => ⟨_, e, by first | omega | (simp; done) | exact hbN.size⟩
          have hlo := newLab_old HLA.out hat'
          have hnf : ∀ b, newLab lab3 v' .oth b ≠ .free → w4.heap.size ≤ b ∧ b < w'.heap.size := fun b hb => by
            rcases newLab_free hb with e | e
            · exact own_block hown' b e
            · have := HI9.out.mine b e
              exact ⟨this.1, Nat.lt_of_lt_of_le this.2 hst.size⟩
          have HI10 := Lib.hid (HI9.out.other HB9.out.size hst hlo hnf)
          have hbw : Below w4.heap.size W9 w' := ⟨hst.os, hst.tape, hst.output, hst.size, fun k hk => hst.block k (by have := HB9.out.size; omega) (by rw [HI9.out.low hk]; intro e; cases e)⟩
          have HB10 := Lib.hid (HB9.out.trans hbw)
          have HW10 := Lib.hid (show LstW w4.heap.size w' (newLab lab3 v' .oth) v' (A ++ [(p, us)]) from ⟨⟨xs ++ [.string p, .slice ax us.length cx], by simpa using hown', FlatA.snoc (HX4.out.same (fun _ h => h) (fun b hb => HB10.out.block b hb)) (HF.out.same (fun _ h => h) (fun b hb => hbw.block b hb))⟩, newLab_own⟩)
          clear hown' hgrow hat hbN hWN hst hat' hlo hnf hbw x0 x1
          go_wp2
          go_roundw
          case rel => exact ⟨j + 1, newLab lab3 v' .oth, A ++ [(p, us)], by omega, by go_num, HI10.out, HW10.out, Lib.hid ⟨by have := HA.out.1; rw [List.length_append, List.length_singleton]; omega, fun y hy => (List.mem_append.1 hy).elim (HA.out.2 y) (fun h => by rw [List.mem_singleton.1 h]; exact HML.out)⟩, HB10.out⟩
          case measure => simp [intOf]; omega
    · obtain rfl : j = L.length := by omega
      obtain ⟨wa, wc, rfl⟩ := (hW.1.read hBr.size).shape
      obtain ⟨la, lc, m1, m2, m3, hrow, _⟩ := hI.row
      have HLN := Lib.hid (len_row S la A.length lc (some m1) (some m2) (some m3) wr hrow)
      have HI := Lib.hid hI
      have HWL := Lib.hid (hW.1.read hBr.size)
      have HBR := Lib.hid (below_then HB4.out hBr)
      have HCA := Lib.hid (show ∀ y ∈ A, cntA y ≤ 1000000 from fun y hy => by have := HC.out y (hA.out.2 y hy); omega)
      have HAL := Lib.hid (show A.length ≤ 150 by have := hA.out.1; have := HLL.out; omega)
      have hal : A.length ≤ 9223372036854775807 := by have := HAL.out; omega
      clear hI hW hA hBr hrow HL4 HC HLL hlt hj
      go_wp2_with (go_at_call 18; refine HLN.out.mono ?_; rintro e w7 ⟨rfl, hb7⟩; have HI7 := Lib.hid (HI.out.below hb7); have HW7 := Lib.hid (HWL.out.below hb7); have HB7 := Lib.hid (below_then HBR.out hb7); clear hb7 HLN HI HWL HBR)
      go_loopw [9] (fun i wr => ∃ (j : Nat), j ≤ A.length ∧ i = .int .i64 j ∧ Below w7.heap.size w7 wr) (fun i _ => A.length - (intOf i).toNat)
      case atStart => exact ⟨0, by omega, by go_num, Below.refl _ _⟩
      case round =>
        obtain ⟨j, hj, rfl, hBr⟩ := hrel
        by_cases hlt : j < A.length
        · obtain ⟨wg, wc', aw, kw, e, g0, g1, hyy⟩ := (HW7.out.below hBr).at j hlt
          simp only [Value.slice.injEq] at e
          obtain ⟨rfl, _, rfl⟩ := e
          have hat := at_any w4.heap.size S lab2 A j wr (HI7.out.below hBr) hlt
          have HMB := Lib.hid (List.getElem_mem hlt : A[j] ∈ A)
          obtain ⟨X, hX⟩ : ∃ X, A[j] = X := ⟨_, rfl⟩
          rw [hX] at g0 g1 hyy hat HMB
          obtain ⟨p, us⟩ := X
          simp only at g0 g1 hyy hat
          have G0 := Lib.hid g0
          have G1 := Lib.hid g1
          have HYY := Lib.hid hyy
          have HAT := Lib.hid hat
          have HBR := Lib.hid hBr
          have i1 : (0 : Int) ≤ (j : Int) := by omega
          have i2 : (j : Int) < (A.length : Int) := by omega
          clear g0 g1 hyy hat hBr hX
          go_wp2_with (go_at_call 19; refine HAT.out.mono ?_)
          clear HAT
          rintro e w8 ⟨a8, c8, rfl, hb8, hat8⟩
          obtain ⟨W8, hW8⟩ : ∃ X, w8.alloc (.cells #[.string p, .slice a8 us.length c8] 24) = X := ⟨_, rfl⟩
          have hbn : Below w8.heap.size w8 W8 := by rw [← hW8]; exact (Below.refl _ _).alloc (Nat.le_refl _) _
          have h8 : W8.heap[w8.heap.size]? = some (.cells #[.string p, .slice a8 us.length c8] 24 (0, 0)) := by rw [← hW8]; exact World.alloc_heap_new _ _
          have HR8 := Lib.hid h8
          have HRB := Lib.hid (below_then hb8 hbn)
          have HB8 := Lib.hid (below_then HBR.out (below_then hb8 hbn))
          have HX8 := Lib.hid ((hat8.same (S' := fun b => b < w8.heap.size) (fun b h => h.2) (fun _ _ => rfl)).below hbn)
          obtain ⟨q8, hq8⟩ : ∃ g, w8.heap.size = g := ⟨_, rfl⟩
          rw [hq8] at HR8
          have HSG := Lib.hid hat8.sig
          clear hb8 hat8 hbn h8
          go_wp2_with fail
          try rw [hW8]
          try simp only [hq8]
          clear hW8 hq8
          have hst := @FL_grow [fV (.int .i64 0), fV (.bool false), fV (.bool false), fV (.agg #[.string p, .slice a8 us.length c8]), fV (.slice (some ⟨wg, 0, none⟩) A.length wc), fV (.int .i64 j), fV (.pointer (some ⟨wg, j * 2, none⟩)), fV (.agg #[.string p, .slice aw us.length kw]), fV (.bool true), fV (.bool false), fV (.bool false), fV (.bool false), fV (.pointer (some ⟨S, 0, none⟩)), fV (.slice (some ⟨wg, 0, none⟩) A.length wc), fV (.int .i64 j), fV (.pointer (some ⟨wg, j * 2, none⟩)), fV (.agg #[.string p, .slice aw us.length kw]), fV (.bool true), fV (.bool false), fV (.bool false)] (by
            intro F hF
            simp only [List.mem_cons, List.not_mem_nil, or_false] at hF
            rcases hF with rfl | rfl | rfl | rfl | rfl | rfl | rfl | rfl | rfl | rfl | rfl | rfl | rfl | rfl | rfl | rfl | rfl | rfl | rfl | rfl <;> first | exact fV_stays _)
          refine wp_region_grow_orB (by kernel_rfl) (FL [fV (.int .i64 0), fV (.bool false), fV (.bool false), fV (.agg #[.string p, .slice a8 us.length c8]), fV (.slice (some ⟨wg, 0, none⟩) A.length wc), fV (.int .i64 j), fV (.pointer (some ⟨wg, j * 2, none⟩)), fV (.agg #[.string p, .slice aw us.length kw]), fV (.bool true), fV (.bool false), fV (.bool false), fV (.bool false), fV (.pointer (some ⟨S, 0, none⟩)), fV (.slice (some ⟨wg, 0, none⟩) A.length wc), fV (.int .i64 j), fV (.pointer (some ⟨wg, j * 2, none⟩)), fV (.agg #[.string p, .slice aw us.length kw]), fV (.bool true), fV (.bool false), fV (.bool false)]) hst (by kernel_rfl) (steps_or ?_) ?_
          · refine ⟨?_, ?_, ?_, ?_, ?_, ?_, ?_, ?_, ?_, ?_, ?_, ?_, ?_, ?_, ?_, ?_, ?_, ?_, ?_, ?_, trivial⟩
            · intro a wx hb hd hs ho hp
              refine Or.inl ⟨rfl, ?_⟩
              have h11 : a.tmps.getD 11 undef = .int .i64 0 := (ho 11 (by kernel_rfl)).trans rfl
              unfold Oper.wp
              go_simp
              exact Stepped.at (v := .int .i64 0) (by first | rfl | simp) hd (Below.refl _ _) rfl
            · intro a wx hb hd hs ho hp
              refine Or.inl ⟨rfl, ?_⟩
              have h104 : a.tmps.getD 104 undef = .int .i64 0 := facts_at hp 0 104 (by kernel_rfl)
              unfold Oper.wp
              go_simp
              exact Stepped.at (v := .bool false) (by first | rfl | simp) hd (Below.refl _ _) rfl
            · intro a wx hb hd hs ho hp
              refine Or.inl ⟨rfl, ?_⟩
              have h105 : a.tmps.getD 105 undef = .bool false := facts_at hp 1 105 (by kernel_rfl)
              unfold Oper.wp
              go_simp
              exact Stepped.at (v := .bool false) (by first | rfl | simp) hd (Below.refl _ _) rfl
            · intro a wx hb hd hs ho hp
              refine Or.inl ⟨wanted_yes rfl (yielded_at (k := 2) (d := 106) (by kernel_rfl) (show a.tmps.getD 106 undef = _ from facts_at hp 2 106 (by kernel_rfl))), ?_⟩
              have h10 : a.tmps.getD 10 undef = .pointer (some ⟨q8, 0, none⟩) := (ho 10 (by kernel_rfl)).trans rfl
              have hx := (hb.block (q8) (Array.getElem?_eq_some_iff.1 HR8.out).1).trans HR8.out
              have s10 := qslot_of (hs.trans (rfl : _ = 166)) (by decide) h10
              have x0 := cells_at hx 0 _ rfl
              have x1 := cells_at hx 1 _ rfl
              unfold Oper.wp
              go_simp
              exact Stepped.at (v := .agg #[.string p, .slice a8 us.length c8]) (by first | rfl | simp) hd (Below.refl _ _) rfl
            · intro a wx hb hd hs ho hp
              refine Or.inl ⟨wanted_yes rfl (yielded_at (k := 2) (d := 106) (by kernel_rfl) (show a.tmps.getD 106 undef = _ from facts_at hp 2 106 (by kernel_rfl))), ?_⟩
              have h4 : a.tmps.getD 4 undef = .slice (some ⟨wg, 0, none⟩) A.length wc := (ho 4 (by kernel_rfl)).trans rfl
              unfold Oper.wp
              go_simp
              exact Stepped.at (v := .slice (some ⟨wg, 0, none⟩) A.length wc) (by first | rfl | simp) hd (Below.refl _ _) rfl
            · intro a wx hb hd hs ho hp
              refine Or.inl ⟨wanted_yes rfl (yielded_at (k := 2) (d := 106) (by kernel_rfl) (show a.tmps.getD 106 undef = _ from facts_at hp 2 106 (by kernel_rfl))), ?_⟩
              have h9 : a.tmps.getD 9 undef = .int .i64 j := (ho 9 (by kernel_rfl)).trans rfl
              unfold Oper.wp
              go_simp
              exact Stepped.at (v := .int .i64 j) (by first | rfl | simp) hd (Below.refl _ _) rfl
            · intro a wx hb hd hs ho hp
              refine Or.inl ⟨wanted_yes rfl (yielded_at (k := 2) (d := 106) (by kernel_rfl) (show a.tmps.getD 106 undef = _ from facts_at hp 2 106 (by kernel_rfl))), ?_⟩
              have h108 : a.tmps.getD 108 undef = .slice (some ⟨wg, 0, none⟩) A.length wc := facts_at hp 4 108 (by kernel_rfl)
              have h109 : a.tmps.getD 109 undef = .int .i64 j := facts_at hp 5 109 (by kernel_rfl)
              unfold Oper.wp
              go_simp
              exact Stepped.at (v := .pointer (some ⟨wg, j * 2, none⟩)) (by first | rfl | simp) hd (Below.refl _ _) rfl
            · intro a wx hb hd hs ho hp
              refine Or.inl ⟨wanted_yes rfl (yielded_at (k := 2) (d := 106) (by kernel_rfl) (show a.tmps.getD 106 undef = _ from facts_at hp 2 106 (by kernel_rfl))), ?_⟩
              have h110 : a.tmps.getD 110 undef = .pointer (some ⟨wg, j * 2, none⟩) := facts_at hp 6 110 (by kernel_rfl)
              have s110 := qslot_of (hs.trans (rfl : _ = 166)) (by decide) h110
              have z0 := cell_later hb (cell_later HRB.out G0.out)
              have z1 := cell_later hb (cell_later HRB.out G1.out)
              unfold Oper.wp
              go_simp
              exact Stepped.at (v := .agg #[.string p, .slice aw us.length kw]) (by first | rfl | simp) hd (Below.refl _ _) rfl
            · intro a wx hb hd hs ho hp
              refine Or.inl ⟨wanted_yes rfl (yielded_at (k := 2) (d := 106) (by kernel_rfl) (show a.tmps.getD 106 undef = _ from facts_at hp 2 106 (by kernel_rfl))), ?_⟩
              have h107 : a.tmps.getD 107 undef = .agg #[.string p, .slice a8 us.length c8] := facts_at hp 3 107 (by kernel_rfl)
              have h111 : a.tmps.getD 111 undef = .agg #[.string p, .slice aw us.length kw] := facts_at hp 7 111 (by kernel_rfl)
              unfold Oper.wp
              go_simp
              refine (sameAtom_self (p, us) _ _ _ _ wx (HX8.out.below hb) ((HYY.out.below HRB.out).below hb)).mono ?_
              rintro e w9 ⟨rfl, hb9⟩
              exact Stepped.at (v := .bool true) rfl hd (hb9) rfl
            · intro a wx hb hd hs ho hp
              refine Or.inl ⟨wanted_yes rfl (yielded_at (k := 2) (d := 106) (by kernel_rfl) (show a.tmps.getD 106 undef = _ from facts_at hp 2 106 (by kernel_rfl))), ?_⟩
              have h112 : a.tmps.getD 112 undef = .bool true := facts_at hp 8 112 (by kernel_rfl)
              unfold Oper.wp
              go_simp
              exact Stepped.at (v := .bool false) (by first | rfl | simp) hd (Below.refl _ _) rfl
            · intro a wx hb hd hs ho hp
              refine Or.inl ⟨rfl, ?_⟩
              have h106 : a.tmps.getD 106 undef = .bool false := facts_at hp 2 106 (by kernel_rfl)
              have h113 : a.tmps.getD 113 undef = .bool false := facts_at hp 9 113 (by kernel_rfl)
              unfold Oper.wp
              go_simp
              exact Stepped.at (v := .bool false) (by first | rfl | simp) hd (Below.refl _ _) rfl
            · intro a wx hb hd hs ho hp
              refine Or.inl ⟨rfl, ?_⟩
              have h114 : a.tmps.getD 114 undef = .bool false := facts_at hp 10 114 (by kernel_rfl)
              unfold Oper.wp
              go_simp
              exact Stepped.at (v := .bool false) (by first | rfl | simp) hd (Below.refl _ _) rfl
            · intro a wx hb hd hs ho hp
              refine Or.inl ⟨wanted_yes rfl (yielded_at (k := 11) (d := 115) (by kernel_rfl) (show a.tmps.getD 115 undef = _ from facts_at hp 11 115 (by kernel_rfl))), ?_⟩
              have h3 : a.tmps.getD 3 undef = .pointer (some ⟨S, 0, none⟩) := (ho 3 (by kernel_rfl)).trans rfl
              unfold Oper.wp
              go_simp
              exact Stepped.at (v := .pointer (some ⟨S, 0, none⟩)) (by first | rfl | simp) hd (Below.refl _ _) rfl
            · intro a wx hb hd hs ho hp
              refine Or.inl ⟨wanted_yes rfl (yielded_at (k := 11) (d := 115) (by kernel_rfl) (show a.tmps.getD 115 undef = _ from facts_at hp 11 115 (by kernel_rfl))), ?_⟩
              have h4 : a.tmps.getD 4 undef = .slice (some ⟨wg, 0, none⟩) A.length wc := (ho 4 (by kernel_rfl)).trans rfl
              unfold Oper.wp
              go_simp
              exact Stepped.at (v := .slice (some ⟨wg, 0, none⟩) A.length wc) (by first | rfl | simp) hd (Below.refl _ _) rfl
            · intro a wx hb hd hs ho hp
              refine Or.inl ⟨wanted_yes rfl (yielded_at (k := 11) (d := 115) (by kernel_rfl) (show a.tmps.getD 115 undef = _ from facts_at hp 11 115 (by kernel_rfl))), ?_⟩
              have h9 : a.tmps.getD 9 undef = .int .i64 j := (ho 9 (by kernel_rfl)).trans rfl
              unfold Oper.wp
              go_simp
              exact Stepped.at (v := .int .i64 j) (by first | rfl | simp) hd (Below.refl _ _) rfl
            · intro a wx hb hd hs ho hp
              refine Or.inl ⟨wanted_yes rfl (yielded_at (k := 11) (d := 115) (by kernel_rfl) (show a.tmps.getD 115 undef = _ from facts_at hp 11 115 (by kernel_rfl))), ?_⟩
              have h117 : a.tmps.getD 117 undef = .slice (some ⟨wg, 0, none⟩) A.length wc := facts_at hp 13 117 (by kernel_rfl)
              have h118 : a.tmps.getD 118 undef = .int .i64 j := facts_at hp 14 118 (by kernel_rfl)
              unfold Oper.wp
              go_simp
              exact Stepped.at (v := .pointer (some ⟨wg, j * 2, none⟩)) (by first | rfl | simp) hd (Below.refl _ _) rfl
            · intro a wx hb hd hs ho hp
              refine Or.inl ⟨wanted_yes rfl (yielded_at (k := 11) (d := 115) (by kernel_rfl) (show a.tmps.getD 115 undef = _ from facts_at hp 11 115 (by kernel_rfl))), ?_⟩
              have h119 : a.tmps.getD 119 undef = .pointer (some ⟨wg, j * 2, none⟩) := facts_at hp 15 119 (by kernel_rfl)
              have s119 := qslot_of (hs.trans (rfl : _ = 166)) (by decide) h119
              have z0 := cell_later hb (cell_later HRB.out G0.out)
              have z1 := cell_later hb (cell_later HRB.out G1.out)
              unfold Oper.wp
              go_simp
              exact Stepped.at (v := .agg #[.string p, .slice aw us.length kw]) (by first | rfl | simp) hd (Below.refl _ _) rfl
            · intro a wx hb hd hs ho hp
              refine Or.inl ⟨wanted_yes rfl (yielded_at (k := 11) (d := 115) (by kernel_rfl) (show a.tmps.getD 115 undef = _ from facts_at hp 11 115 (by kernel_rfl))), ?_⟩
              have h116 : a.tmps.getD 116 undef = .pointer (some ⟨S, 0, none⟩) := facts_at hp 12 116 (by kernel_rfl)
              have h120 : a.tmps.getD 120 undef = .agg #[.string p, .slice aw us.length kw] := facts_at hp 16 120 (by kernel_rfl)
              unfold Oper.wp
              go_simp
              refine (has_q w4.heap.size S lab2 A (p, us) _ _ true wx ((HI7.out.below HB8.out).below hb) ((HYY.out.below HRB.out).below hb) (HCA.out _ HMB.out) ⟨fun _ => HMB.out, fun _ => rfl⟩).mono ?_
              rintro e w9 ⟨rfl, hb9⟩
              exact Stepped.at (v := .bool true) rfl hd (hb9) rfl
            · intro a wx hb hd hs ho hp
              refine Or.inl ⟨wanted_yes rfl (yielded_at (k := 11) (d := 115) (by kernel_rfl) (show a.tmps.getD 115 undef = _ from facts_at hp 11 115 (by kernel_rfl))), ?_⟩
              have h121 : a.tmps.getD 121 undef = .bool true := facts_at hp 17 121 (by kernel_rfl)
              unfold Oper.wp
              go_simp
              exact Stepped.at (v := .bool false) (by first | rfl | simp) hd (Below.refl _ _) rfl
            · intro a wx hb hd hs ho hp
              refine Or.inl ⟨rfl, ?_⟩
              have h115 : a.tmps.getD 115 undef = .bool false := facts_at hp 11 115 (by kernel_rfl)
              have h122 : a.tmps.getD 122 undef = .bool false := facts_at hp 18 122 (by kernel_rfl)
              unfold Oper.wp
              go_simp
              exact Stepped.at (v := .bool false) (by first | rfl | simp) hd (Below.refl _ _) rfl
          intro ac W9 hJ
          obtain ⟨u104, f104⟩ : ∃ u, ac.tmps.getD 104 undef = u := ⟨_, rfl⟩
          obtain ⟨u105, f105⟩ : ∃ u, ac.tmps.getD 105 undef = u := ⟨_, rfl⟩
          obtain ⟨u106, f106⟩ : ∃ u, ac.tmps.getD 106 undef = u := ⟨_, rfl⟩
          obtain ⟨u107, f107⟩ : ∃ u, ac.tmps.getD 107 undef = u := ⟨_, rfl⟩
          obtain ⟨u108, f108⟩ : ∃ u, ac.tmps.getD 108 undef = u := ⟨_, rfl⟩
          obtain ⟨u109, f109⟩ : ∃ u, ac.tmps.getD 109 undef = u := ⟨_, rfl⟩
          obtain ⟨u110, f110⟩ : ∃ u, ac.tmps.getD 110 undef = u := ⟨_, rfl⟩
          obtain ⟨u111, f111⟩ : ∃ u, ac.tmps.getD 111 undef = u := ⟨_, rfl⟩
          obtain ⟨u112, f112⟩ : ∃ u, ac.tmps.getD 112 undef = u := ⟨_, rfl⟩
          obtain ⟨u113, f113⟩ : ∃ u, ac.tmps.getD 113 undef = u := ⟨_, rfl⟩
          obtain ⟨u114, f114⟩ : ∃ u, ac.tmps.getD 114 undef = u := ⟨_, rfl⟩
          obtain ⟨u115, f115⟩ : ∃ u, ac.tmps.getD 115 undef = u := ⟨_, rfl⟩
          obtain ⟨u116, f116⟩ : ∃ u, ac.tmps.getD 116 undef = u := ⟨_, rfl⟩
          obtain ⟨u117, f117⟩ : ∃ u, ac.tmps.getD 117 undef = u := ⟨_, rfl⟩
          obtain ⟨u118, f118⟩ : ∃ u, ac.tmps.getD 118 undef = u := ⟨_, rfl⟩
          obtain ⟨u119, f119⟩ : ∃ u, ac.tmps.getD 119 undef = u := ⟨_, rfl⟩
          obtain ⟨u120, f120⟩ : ∃ u, ac.tmps.getD 120 undef = u := ⟨_, rfl⟩
          obtain ⟨u121, f121⟩ : ∃ u, ac.tmps.getD 121 undef = u := ⟨_, rfl⟩
          obtain ⟨u122, f122⟩ : ∃ u, ac.tmps.getD 122 undef = u := ⟨_, rfl⟩
          have f123 : ac.tmps.getD 123 undef = .bool false := hJ.at_end 19 123 (by kernel_rfl)
          have hBelow := hJ.below
          obtain ⟨TT, DD⟩ := ac
          obtain rfl : DD = [] := hJ.defers
          have hE := slots_merge [false, false, false, false, false, false, false, false, false, false, false, false, false, false, false, false, false, false, false, false, false, false, false, false, false, false, false, false, false, false, false, false, false, false, false, false, false, false, false, false, false, false, false, false, false, false, false, false, false, false, false, false, false, false, false, false, false, false, false, false, false, false, false, false, false, false, false, false, false, false, false, false, false, false, false, false, false, false, false, false, false, false, false, false, false, false, false, false, false, false, false, false, false, false, false, false, false, false, false, false, false, false, false, false, true, true, true, true, true, true, true, true, true, true, true, true, true, true, true, true, true, true, true, true, false, false, false, false, false, false, false, false, false, false, false, false, false, false, false, false, false, false, false, false, false, false, false, false, false, false, false, false, false, false, false, false, false, false, false, false, false, false, false, false, false, false] 166 hJ.tmps rfl (by kernel_rfl) hJ.outer
          simp only [mergeFrom, Nat.zero_add, Nat.reduceAdd, f104, f105, f106, f107, f108, f109, f110, f111, f112, f113, f114, f115, f116, f117, f118, f119, f120, f121, f122, f123] at hE
          clear hst hJ f104 f105 f106 f107 f108 f109 f110 f111 f112 f113 f114 f115 f116 f117 f118 f119 f120 f121 f122 f123
          subst hE
          have HR9 := Lib.hid (row_later hBelow HR8.out)
          have HB9 := Lib.hid (below_then HB8.out hBelow)
          have HX9 := Lib.hid (HX8.out.below hBelow)
          have d0 := cells_at HR9.out 0 _ rfl
          have d1 := cells_at HR9.out 1 _ rfl
          clear hBelow HR8 HB8 HX8 HRB HYY G0 G1
          obtain ⟨W10, hW10⟩ : ∃ X, W9.alloc (.cells #[.string p, .int .i64 us.length] 41) = X := ⟨_, rfl⟩
          have hbn : Below W9.heap.size W9 W10 := by rw [← hW10]; exact (Below.refl _ _).alloc (Nat.le_refl _) _
          have h10 : W10.heap[W9.heap.size]? = some (.cells #[.string p, .int .i64 us.length] 41 (0, 0)) := by rw [← hW10]; exact World.alloc_heap_new _ _
          have HR10 := Lib.hid h10
          have HR8' := Lib.hid (row_later hbn HR9.out)
          have HB10 := Lib.hid (below_then HB9.out hbn)
          have HX10 := Lib.hid (HX9.out.below hbn)
          obtain ⟨q10, hq10⟩ : ∃ g, W9.heap.size = g := ⟨_, rfl⟩
          rw [hq10] at HR10
          clear hbn h10
          go_wp2_with fail
          try rw [hW10]
          try simp only [hq10]
          clear hW10 hq10 d0 d1
          have HI10 := Lib.hid (HI7.out.below HB10.out)
          have HW10 := Lib.hid (HW7.out.below HB10.out)
          obtain ⟨F, hF⟩ : ∃ F, A.filter (qS (p, us.length)) = F := ⟨_, rfl⟩
          have EF := Lib.hid hF
          clear hF
          have hst := @FL_grow [fV (.pointer (some ⟨S, 0, none⟩)), fV (.agg #[.string p, .int .i64 us.length]), fLst F, fV (.slice (some ⟨wg, 0, none⟩) A.length wc), fV (.agg #[.string p, .int .i64 us.length]), fV (.agg #[.int .u8 0, .int .i64 0, .string ⟨#[]⟩, .slice none 0 0]), fLst F, fV (.bool true), fV (.bool false)] (by
            intro F hF
            simp only [List.mem_cons, List.not_mem_nil, or_false] at hF
            rcases hF with rfl | rfl | rfl | rfl | rfl | rfl | rfl | rfl | rfl <;> first | exact fV_stays _ | exact fLst_stays _ | exact fLst_stays _)
          refine wp_region_grow_orB (by kernel_rfl) (FL [fV (.pointer (some ⟨S, 0, none⟩)), fV (.agg #[.string p, .int .i64 us.length]), fLst F, fV (.slice (some ⟨wg, 0, none⟩) A.length wc), fV (.agg #[.string p, .int .i64 us.length]), fV (.agg #[.int .u8 0, .int .i64 0, .string ⟨#[]⟩, .slice none 0 0]), fLst F, fV (.bool true), fV (.bool false)]) hst (by kernel_rfl) (steps_or ?_) ?_
          · refine ⟨?_, ?_, ?_, ?_, ?_, ?_, ?_, ?_, ?_, trivial⟩
            · intro a wx hb hd hs ho hp
              refine Or.inl ⟨rfl, ?_⟩
              have h3 : a.tmps.getD 3 undef = .pointer (some ⟨S, 0, none⟩) := (ho 3 (by kernel_rfl)).trans rfl
              unfold Oper.wp
              go_simp
              exact Stepped.at (v := .pointer (some ⟨S, 0, none⟩)) (by first | rfl | simp) hd (Below.refl _ _) rfl
            · intro a wx hb hd hs ho hp
              refine Or.inl ⟨rfl, ?_⟩
              have h12 : a.tmps.getD 12 undef = .pointer (some ⟨q10, 0, none⟩) := (ho 12 (by kernel_rfl)).trans rfl
              have hx := (hb.block (q10) (Array.getElem?_eq_some_iff.1 HR10.out).1).trans HR10.out
              have s12 := qslot_of (hs.trans (rfl : _ = 166)) (by decide) h12
              have x0 := cells_at hx 0 _ rfl
              have x1 := cells_at hx 1 _ rfl
              unfold Oper.wp
              go_simp
              exact Stepped.at (v := .agg #[.string p, .int .i64 us.length]) (by first | rfl | simp) hd (Below.refl _ _) rfl
            · intro a wx hb hd hs ho hp
              refine Or.inl ⟨rfl, ?_⟩
              have h130 : a.tmps.getD 130 undef = .pointer (some ⟨S, 0, none⟩) := facts_at hp 0 130 (by kernel_rfl)
              have h131 : a.tmps.getD 131 undef = .agg #[.string p, .int .i64 us.length] := facts_at hp 1 131 (by kernel_rfl)
              unfold Oper.wp
              go_simp
              have hx := all_row (HI10.out.below hb) (p, us.length) HSG.out
              rw [pick_ix, EF.out] at hx
              refine hx.mono ?_
              rintro e wy ⟨v, rfl, hv, hb9⟩
              exact Stepped.at (v := v) rfl hd hb9 hv.read
            · intro a wx hb hd hs ho hp
              refine Or.inl ⟨rfl, ?_⟩
              have h4 : a.tmps.getD 4 undef = .slice (some ⟨wg, 0, none⟩) A.length wc := (ho 4 (by kernel_rfl)).trans rfl
              unfold Oper.wp
              go_simp
              exact Stepped.at (v := .slice (some ⟨wg, 0, none⟩) A.length wc) (by first | rfl | simp) hd (Below.refl _ _) rfl
            · intro a wx hb hd hs ho hp
              refine Or.inl ⟨rfl, ?_⟩
              have h12 : a.tmps.getD 12 undef = .pointer (some ⟨q10, 0, none⟩) := (ho 12 (by kernel_rfl)).trans rfl
              have hx := (hb.block (q10) (Array.getElem?_eq_some_iff.1 HR10.out).1).trans HR10.out
              have s12 := qslot_of (hs.trans (rfl : _ = 166)) (by decide) h12
              have x0 := cells_at hx 0 _ rfl
              have x1 := cells_at hx 1 _ rfl
              unfold Oper.wp
              go_simp
              exact Stepped.at (v := .agg #[.string p, .int .i64 us.length]) (by first | rfl | simp) hd (Below.refl _ _) rfl
            · intro a wx hb hd hs ho hp
              refine Or.inl ⟨rfl, ?_⟩
              unfold Oper.wp
              go_simp
              exact Stepped.at (v := .agg #[.int .u8 0, .int .i64 0, .string ⟨#[]⟩, .slice none 0 0]) (by first | rfl | simp) hd (Below.refl _ _) rfl
            · intro a wx hb hd hs ho hp
              refine Or.inl ⟨rfl, ?_⟩
              have h133 : a.tmps.getD 133 undef = .slice (some ⟨wg, 0, none⟩) A.length wc := facts_at hp 3 133 (by kernel_rfl)
              have h134 : a.tmps.getD 134 undef = .agg #[.string p, .int .i64 us.length] := facts_at hp 4 134 (by kernel_rfl)
              have h135 : a.tmps.getD 135 undef = .agg #[.int .u8 0, .int .i64 0, .string ⟨#[]⟩, .slice none 0 0] := facts_at hp 5 135 (by kernel_rfl)
              unfold Oper.wp
              go_simp
              have hx := with_any A _ (p, us.length) (-1) (.mk 0 0 ⟨#[]⟩ []) _ _ _ _ wx (HW10.out.below hb) (by have := HAL.out; omega) (Or.inl (by omega)) ((tmS_leaf (fun b => b < wx.heap.size) wx 0 0 ⟨#[]⟩ (by omega) (by unfold I64; decide +kernel) (by decide)).toIs fun _ h => h)
              rw [withP_all _ _ _ (by omega), EF.out] at hx
              refine hx.mono ?_
              rintro e wy ⟨v, rfl, hv, hb9⟩
              exact Stepped.at (v := v) rfl hd hb9 hv
            · intro a wx hb hd hs ho hp
              refine Or.inl ⟨rfl, ?_⟩
              have e132 := facts_at hp 2 132 (by kernel_rfl)
              have e136 := facts_at hp 6 136 (by kernel_rfl)
              obtain ⟨va, h132⟩ : ∃ u, a.tmps.getD 132 undef = u := ⟨_, rfl⟩
              obtain ⟨vb, h136⟩ : ∃ u, a.tmps.getD 136 undef = u := ⟨_, rfl⟩
              rw [h132] at e132
              rw [h136] at e136
              unfold Oper.wp
              go_simp
              refine (sameAtoms_self _ va vb wx e132 e136).mono ?_
              rintro e wy ⟨rfl, hb9⟩
              exact Stepped.at (v := .bool true) rfl hd hb9 rfl
            · intro a wx hb hd hs ho hp
              refine Or.inl ⟨rfl, ?_⟩
              have h137 : a.tmps.getD 137 undef = .bool true := facts_at hp 7 137 (by kernel_rfl)
              unfold Oper.wp
              go_simp
              exact Stepped.at (v := .bool false) (by first | rfl | simp) hd (Below.refl _ _) rfl
          intro ac W11 hJ
          obtain ⟨u130, f130⟩ : ∃ u, ac.tmps.getD 130 undef = u := ⟨_, rfl⟩
          obtain ⟨u131, f131⟩ : ∃ u, ac.tmps.getD 131 undef = u := ⟨_, rfl⟩
          obtain ⟨u132, f132⟩ : ∃ u, ac.tmps.getD 132 undef = u := ⟨_, rfl⟩
          obtain ⟨u133, f133⟩ : ∃ u, ac.tmps.getD 133 undef = u := ⟨_, rfl⟩
          obtain ⟨u134, f134⟩ : ∃ u, ac.tmps.getD 134 undef = u := ⟨_, rfl⟩
          obtain ⟨u135, f135⟩ : ∃ u, ac.tmps.getD 135 undef = u := ⟨_, rfl⟩
          obtain ⟨u136, f136⟩ : ∃ u, ac.tmps.getD 136 undef = u := ⟨_, rfl⟩
          obtain ⟨u137, f137⟩ : ∃ u, ac.tmps.getD 137 undef = u := ⟨_, rfl⟩
          have f138 : ac.tmps.getD 138 undef = .bool false := hJ.at_end 8 138 (by kernel_rfl)
          have hBelow := hJ.below
          obtain ⟨TT, DD⟩ := ac
          obtain rfl : DD = [] := hJ.defers
          have hE := slots_merge [false, false, false, false, false, false, false, false, false, false, false, false, false, false, false, false, false, false, false, false, false, false, false, false, false, false, false, false, false, false, false, false, false, false, false, false, false, false, false, false, false, false, false, false, false, false, false, false, false, false, false, false, false, false, false, false, false, false, false, false, false, false, false, false, false, false, false, false, false, false, false, false, false, false, false, false, false, false, false, false, false, false, false, false, false, false, false, false, false, false, false, false, false, false, false, false, false, false, false, false, false, false, false, false, false, false, false, false, false, false, false, false, false, false, false, false, false, false, false, false, false, false, false, false, false, false, false, false, false, false, true, true, true, true, true, true, true, true, true, false, false, false, false, false, false, false, false, false, false, false, false, false, false, false, false, false, false, false, false, false, false, false, false, false, false, false] 166 hJ.tmps rfl (by kernel_rfl) hJ.outer
          simp only [mergeFrom, Nat.zero_add, Nat.reduceAdd, f130, f131, f132, f133, f134, f135, f136, f137, f138] at hE
          clear hst hJ f130 f131 f132 f133 f134 f135 f136 f137 f138
          subst hE
          have HB11 := Lib.hid (below_then HB10.out hBelow)
          have HX11 := Lib.hid (HX10.out.below hBelow)
          have HR11 := Lib.hid (row_later hBelow HR10.out)
          have HR12 := Lib.hid (row_later hBelow HR8'.out)
          have HVL := Lib.hid (show validA (p, us) = true from ((HI10.out.good _ HMB.out).1))
          have hul : us.length ≤ 9223372036854775807 := by have := HSG.out.2; unfold maxLen at this; exact this
          clear hBelow HB10 HX10 HR10 HR8' HI10 HW10 EF HB9 HX9 HR9
          go_wp2_with fail
          obtain ⟨wr0, hwr0⟩ : ∃ X, X = wr := ⟨_, rfl⟩
          subst hwr0
          go_loopw [13] (fun i wr => ∃ (k : Nat), k ≤ us.length ∧ i = .int .i64 k ∧ Below W11.heap.size W11 wr) (fun i _ => us.length - (intOf i).toNat)
          case atStart => exact ⟨0, by omega, by go_num, Below.refl _ _⟩
          case round =>
            obtain ⟨k, hk, rfl, hBk⟩ := hrel
            have HR13 := Lib.hid (row_later hBk HR12.out)
            have HR14 := Lib.hid (row_later hBk HR11.out)
            have d1 := cells_at HR13.out 1 _ rfl
            have HBK := Lib.hid (below_then HB11.out hBk)
            have HXK := Lib.hid (HX11.out.below hBk)
            by_cases hkl : k < us.length
            · obtain ⟨bx, ox, rfl, hbx, hit⟩ := HXK.out.args (fun _ h => h) (by intro e; rw [show us = [] from e] at hkl; simp at hkl)
              obtain ⟨x0, x1, x2, x3, y0, y1, y2, y3, hix⟩ := hit.at k hkl
              have hcnt : (us[k]).count ≤ 1000000 := by
                have h1 := count_mem' (List.getElem_mem hkl)
                have h2 := HCA.out _ HMB.out
                have h3 : 1 + Tm.countL us ≤ 1000000 := h2
                omega
              have HVT := Lib.hid (show (us[k]).validB = true by
                have h := HVL.out
                unfold validA at h
                simp only [Bool.and_eq_true, List.all_eq_true] at h
                exact valid_of_value (h.2 _ (List.getElem_mem hkl)))
              have HPO := Lib.hid (show PlaOk ((p, us.length), (k : Int), (us[k]).str) from ⟨HSG.out, i64_len' (by unfold maxLen; omega), str_ok hix hcnt⟩)
              have HIX := Lib.hid hix
              have Y0 := Lib.hid y0
              have Y1 := Lib.hid y1
              have Y2 := Lib.hid y2
              have Y3 := Lib.hid y3
              have HCT := Lib.hid hcnt
              have HIK := Lib.hid (HI7.out.below HBK.out)
              have HWK := Lib.hid (HW7.out.below HBK.out)
              obtain ⟨t, ht⟩ : ∃ t, us[k] = t := ⟨_, rfl⟩
              rw [ht] at HVT HPO HIX HCT
              obtain ⟨F2, hF2⟩ : ∃ F, A.filter (qP ((p, us.length), (k : Int), t.str)) = F := ⟨_, rfl⟩
              have EF2 := Lib.hid hF2
              have EW2 := Lib.hid (show A.filter (withP (p, us.length) (k : Int) t) = F2 by
                rw [← hF2]
                exact List.filter_congr fun x hx => withP_one _ k t HVT.out x ((HI7.out.good x hx).1) hkl)
              have HKL := Lib.hid (show (0 : Int) ≤ (k : Int) ∧ (k : Int) < (us.length : Int) by omega)
              have i3 : (0 : Int) ≤ (k : Int) := by omega
              have i4 : (k : Int) < (us.length : Int) := by omega
              have HBW := Lib.hid hBk
              clear hBk hit hix hcnt y0 y1 y2 y3 ht hF2
              go_wp2_with fail
              have hst := @FL_grow [fV (.pointer (some ⟨S, 0, none⟩)), fV (.agg #[.string p, .int .i64 us.length]), fV (.int .i64 k), fV (.pointer (some ⟨q8, 1, none⟩)), fV (.slice (some ⟨bx, ox, none⟩) us.length c8), fV (.int .i64 k), fV (.pointer (some ⟨bx, ox + k * 4, none⟩)), fV (.agg #[x0, x1, x2, x3]), fLst F2, fV (.slice (some ⟨wg, 0, none⟩) A.length wc), fV (.agg #[.string p, .int .i64 us.length]), fV (.int .i64 k), fV (.pointer (some ⟨q8, 1, none⟩)), fV (.slice (some ⟨bx, ox, none⟩) us.length c8), fV (.int .i64 k), fV (.pointer (some ⟨bx, ox + k * 4, none⟩)), fV (.agg #[x0, x1, x2, x3]), fLst F2, fV (.bool true), fV (.bool false)] (by
                intro F hF
                simp only [List.mem_cons, List.not_mem_nil, or_false] at hF
                rcases hF with rfl | rfl | rfl | rfl | rfl | rfl | rfl | rfl | rfl | rfl | rfl | rfl | rfl | rfl | rfl | rfl | rfl | rfl | rfl | rfl <;> first | exact fV_stays _ | exact fLst_stays _ | exact fLst_stays _)
              refine wp_region_grow_orB (by kernel_rfl) (FL [fV (.pointer (some ⟨S, 0, none⟩)), fV (.agg #[.string p, .int .i64 us.length]), fV (.int .i64 k), fV (.pointer (some ⟨q8, 1, none⟩)), fV (.slice (some ⟨bx, ox, none⟩) us.length c8), fV (.int .i64 k), fV (.pointer (some ⟨bx, ox + k * 4, none⟩)), fV (.agg #[x0, x1, x2, x3]), fLst F2, fV (.slice (some ⟨wg, 0, none⟩) A.length wc), fV (.agg #[.string p, .int .i64 us.length]), fV (.int .i64 k), fV (.pointer (some ⟨q8, 1, none⟩)), fV (.slice (some ⟨bx, ox, none⟩) us.length c8), fV (.int .i64 k), fV (.pointer (some ⟨bx, ox + k * 4, none⟩)), fV (.agg #[x0, x1, x2, x3]), fLst F2, fV (.bool true), fV (.bool false)]) hst (by kernel_rfl) (steps_or ?_) ?_
              · refine ⟨?_, ?_, ?_, ?_, ?_, ?_, ?_, ?_, ?_, ?_, ?_, ?_, ?_, ?_, ?_, ?_, ?_, ?_, ?_, ?_, trivial⟩
                · intro a wx hb hd hs ho hp
                  refine Or.inl ⟨rfl, ?_⟩
                  have h3 : a.tmps.getD 3 undef = .pointer (some ⟨S, 0, none⟩) := (ho 3 (by kernel_rfl)).trans rfl
                  unfold Oper.wp
                  go_simp
                  exact Stepped.at (v := .pointer (some ⟨S, 0, none⟩)) (by first | rfl | simp) hd (Below.refl _ _) rfl
                · intro a wx hb hd hs ho hp
                  refine Or.inl ⟨rfl, ?_⟩
                  have h12 : a.tmps.getD 12 undef = .pointer (some ⟨q10, 0, none⟩) := (ho 12 (by kernel_rfl)).trans rfl
                  have hx := (hb.block (q10) (Array.getElem?_eq_some_iff.1 HR14.out).1).trans HR14.out
                  have s12 := qslot_of (hs.trans (rfl : _ = 166)) (by decide) h12
                  have x0 := cells_at hx 0 _ rfl
                  have x1 := cells_at hx 1 _ rfl
                  unfold Oper.wp
                  go_simp
                  exact Stepped.at (v := .agg #[.string p, .int .i64 us.length]) (by first | rfl | simp) hd (Below.refl _ _) rfl
                · intro a wx hb hd hs ho hp
                  refine Or.inl ⟨rfl, ?_⟩
                  have h13 : a.tmps.getD 13 undef = .int .i64 k := (ho 13 (by kernel_rfl)).trans rfl
                  unfold Oper.wp
                  go_simp
                  exact Stepped.at (v := .int .i64 k) (by first | rfl | simp) hd (Below.refl _ _) rfl
                · intro a wx hb hd hs ho hp
                  refine Or.inl ⟨rfl, ?_⟩
                  have h10 : a.tmps.getD 10 undef = .pointer (some ⟨q8, 0, none⟩) := (ho 10 (by kernel_rfl)).trans rfl
                  unfold Oper.wp
                  go_simp
                  exact Stepped.at (v := .pointer (some ⟨q8, 1, none⟩)) (by first | rfl | simp) hd (Below.refl _ _) rfl
                · intro a wx hb hd hs ho hp
                  refine Or.inl ⟨rfl, ?_⟩
                  have h149 : a.tmps.getD 149 undef = .pointer (some ⟨q8, 1, none⟩) := facts_at hp 3 149 (by kernel_rfl)
                  have hx := (hb.block (q8) (Array.getElem?_eq_some_iff.1 HR13.out).1).trans HR13.out
                  have x1 := cells_at hx 1 _ rfl
                  unfold Oper.wp
                  go_simp
                  exact Stepped.at (v := .slice (some ⟨bx, ox, none⟩) us.length c8) (by first | rfl | simp) hd (Below.refl _ _) rfl
                · intro a wx hb hd hs ho hp
                  refine Or.inl ⟨rfl, ?_⟩
                  have h13 : a.tmps.getD 13 undef = .int .i64 k := (ho 13 (by kernel_rfl)).trans rfl
                  unfold Oper.wp
                  go_simp
                  exact Stepped.at (v := .int .i64 k) (by first | rfl | simp) hd (Below.refl _ _) rfl
                · intro a wx hb hd hs ho hp
                  refine Or.inl ⟨rfl, ?_⟩
                  have h150 : a.tmps.getD 150 undef = .slice (some ⟨bx, ox, none⟩) us.length c8 := facts_at hp 4 150 (by kernel_rfl)
                  have h151 : a.tmps.getD 151 undef = .int .i64 k := facts_at hp 5 151 (by kernel_rfl)
                  unfold Oper.wp
                  go_simp
                  exact Stepped.at (v := .pointer (some ⟨bx, ox + k * 4, none⟩)) (by first | rfl | simp) hd (Below.refl _ _) rfl
                · intro a wx hb hd hs ho hp
                  refine Or.inl ⟨rfl, ?_⟩
                  have h152 : a.tmps.getD 152 undef = .pointer (some ⟨bx, ox + k * 4, none⟩) := facts_at hp 6 152 (by kernel_rfl)
                  have s152 := qslot_of (hs.trans (rfl : _ = 166)) (by decide) h152
                  have z0 := cell_later hb (Y0.out)
                  have z1 := cell_later hb (Y1.out)
                  have z2 := cell_later hb (Y2.out)
                  have z3 := cell_later hb (Y3.out)
                  unfold Oper.wp
                  go_simp
                  exact Stepped.at (v := .agg #[x0, x1, x2, x3]) (by first | rfl | simp) hd (Below.refl _ _) rfl
                · intro a wx hb hd hs ho hp
                  refine Or.inl ⟨rfl, ?_⟩
                  have h146 : a.tmps.getD 146 undef = .pointer (some ⟨S, 0, none⟩) := facts_at hp 0 146 (by kernel_rfl)
                  have h147 : a.tmps.getD 147 undef = .agg #[.string p, .int .i64 us.length] := facts_at hp 1 147 (by kernel_rfl)
                  have h148 : a.tmps.getD 148 undef = .int .i64 k := facts_at hp 2 148 (by kernel_rfl)
                  have h153 : a.tmps.getD 153 undef = .agg #[x0, x1, x2, x3] := facts_at hp 7 153 (by kernel_rfl)
                  unfold Oper.wp
                  go_simp
                  have hx := find_row (HIK.out.below hb) (p, us.length) (k : Int) t _ _ _ _ HPO.out ((HIX.out.below hb).mono hb.size) HCT.out
                  rw [pick_ix, EF2.out] at hx
                  refine hx.mono ?_
                  rintro e wy ⟨v, rfl, hv, hb9⟩
                  exact Stepped.at (v := v) rfl hd hb9 hv.read
                · intro a wx hb hd hs ho hp
                  refine Or.inl ⟨rfl, ?_⟩
                  have h4 : a.tmps.getD 4 undef = .slice (some ⟨wg, 0, none⟩) A.length wc := (ho 4 (by kernel_rfl)).trans rfl
                  unfold Oper.wp
                  go_simp
                  exact Stepped.at (v := .slice (some ⟨wg, 0, none⟩) A.length wc) (by first | rfl | simp) hd (Below.refl _ _) rfl
                · intro a wx hb hd hs ho hp
                  refine Or.inl ⟨rfl, ?_⟩
                  have h12 : a.tmps.getD 12 undef = .pointer (some ⟨q10, 0, none⟩) := (ho 12 (by kernel_rfl)).trans rfl
                  have hx := (hb.block (q10) (Array.getElem?_eq_some_iff.1 HR14.out).1).trans HR14.out
                  have s12 := qslot_of (hs.trans (rfl : _ = 166)) (by decide) h12
                  have x0 := cells_at hx 0 _ rfl
                  have x1 := cells_at hx 1 _ rfl
                  unfold Oper.wp
                  go_simp
                  exact Stepped.at (v := .agg #[.string p, .int .i64 us.length]) (by first | rfl | simp) hd (Below.refl _ _) rfl
                · intro a wx hb hd hs ho hp
                  refine Or.inl ⟨rfl, ?_⟩
                  have h13 : a.tmps.getD 13 undef = .int .i64 k := (ho 13 (by kernel_rfl)).trans rfl
                  unfold Oper.wp
                  go_simp
                  exact Stepped.at (v := .int .i64 k) (by first | rfl | simp) hd (Below.refl _ _) rfl
                · intro a wx hb hd hs ho hp
                  refine Or.inl ⟨rfl, ?_⟩
                  have h10 : a.tmps.getD 10 undef = .pointer (some ⟨q8, 0, none⟩) := (ho 10 (by kernel_rfl)).trans rfl
                  unfold Oper.wp
                  go_simp
                  exact Stepped.at (v := .pointer (some ⟨q8, 1, none⟩)) (by first | rfl | simp) hd (Below.refl _ _) rfl
                · intro a wx hb hd hs ho hp
                  refine Or.inl ⟨rfl, ?_⟩
                  have h158 : a.tmps.getD 158 undef = .pointer (some ⟨q8, 1, none⟩) := facts_at hp 12 158 (by kernel_rfl)
                  have hx := (hb.block (q8) (Array.getElem?_eq_some_iff.1 HR13.out).1).trans HR13.out
                  have x1 := cells_at hx 1 _ rfl
                  unfold Oper.wp
                  go_simp
                  exact Stepped.at (v := .slice (some ⟨bx, ox, none⟩) us.length c8) (by first | rfl | simp) hd (Below.refl _ _) rfl
                · intro a wx hb hd hs ho hp
                  refine Or.inl ⟨rfl, ?_⟩
                  have h13 : a.tmps.getD 13 undef = .int .i64 k := (ho 13 (by kernel_rfl)).trans rfl
                  unfold Oper.wp
                  go_simp
                  exact Stepped.at (v := .int .i64 k) (by first | rfl | simp) hd (Below.refl _ _) rfl
                · intro a wx hb hd hs ho hp
                  refine Or.inl ⟨rfl, ?_⟩
                  have h159 : a.tmps.getD 159 undef = .slice (some ⟨bx, ox, none⟩) us.length c8 := facts_at hp 13 159 (by kernel_rfl)
                  have h160 : a.tmps.getD 160 undef = .int .i64 k := facts_at hp 14 160 (by kernel_rfl)
                  unfold Oper.wp
                  go_simp
                  exact Stepped.at (v := .pointer (some ⟨bx, ox + k * 4, none⟩)) (by first | rfl | simp) hd (Below.refl _ _) rfl
                · intro a wx hb hd hs ho hp
                  refine Or.inl ⟨rfl, ?_⟩
                  have h161 : a.tmps.getD 161 undef = .pointer (some ⟨bx, ox + k * 4, none⟩) := facts_at hp 15 161 (by kernel_rfl)
                  have s161 := qslot_of (hs.trans (rfl : _ = 166)) (by decide) h161
                  have z0 := cell_later hb (Y0.out)
                  have z1 := cell_later hb (Y1.out)
                  have z2 := cell_later hb (Y2.out)
                  have z3 := cell_later hb (Y3.out)
                  unfold Oper.wp
                  go_simp
                  exact Stepped.at (v := .agg #[x0, x1, x2, x3]) (by first | rfl | simp) hd (Below.refl _ _) rfl
                · intro a wx hb hd hs ho hp
                  refine Or.inl ⟨rfl, ?_⟩
                  have h155 : a.tmps.getD 155 undef = .slice (some ⟨wg, 0, none⟩) A.length wc := facts_at hp 9 155 (by kernel_rfl)
                  have h156 : a.tmps.getD 156 undef = .agg #[.string p, .int .i64 us.length] := facts_at hp 10 156 (by kernel_rfl)
                  have h157 : a.tmps.getD 157 undef = .int .i64 k := facts_at hp 11 157 (by kernel_rfl)
                  have h162 : a.tmps.getD 162 undef = .agg #[x0, x1, x2, x3] := facts_at hp 16 162 (by kernel_rfl)
                  unfold Oper.wp
                  go_simp
                  have hx := with_any A _ (p, us.length) (k : Int) t _ _ _ _ wx (HWK.out.below hb) (by have := HAL.out; omega) (Or.inr HKL.out) ((HIX.out.below hb).mono hb.size)
                  rw [EW2.out] at hx
                  refine hx.mono ?_
                  rintro e wy ⟨v, rfl, hv, hb9⟩
                  exact Stepped.at (v := v) rfl hd hb9 hv
                · intro a wx hb hd hs ho hp
                  refine Or.inl ⟨rfl, ?_⟩
                  have e154 := facts_at hp 8 154 (by kernel_rfl)
                  have e163 := facts_at hp 17 163 (by kernel_rfl)
                  obtain ⟨va, h154⟩ : ∃ u, a.tmps.getD 154 undef = u := ⟨_, rfl⟩
                  obtain ⟨vb, h163⟩ : ∃ u, a.tmps.getD 163 undef = u := ⟨_, rfl⟩
                  rw [h154] at e154
                  rw [h163] at e163
                  unfold Oper.wp
                  go_simp
                  refine (sameAtoms_self _ va vb wx e154 e163).mono ?_
                  rintro e wy ⟨rfl, hb9⟩
                  exact Stepped.at (v := .bool true) rfl hd hb9 rfl
                · intro a wx hb hd hs ho hp
                  refine Or.inl ⟨rfl, ?_⟩
                  have h164 : a.tmps.getD 164 undef = .bool true := facts_at hp 18 164 (by kernel_rfl)
                  unfold Oper.wp
                  go_simp
                  exact Stepped.at (v := .bool false) (by first | rfl | simp) hd (Below.refl _ _) rfl
              intro ac W12 hJ
              obtain ⟨u146, f146⟩ : ∃ u, ac.tmps.getD 146 undef = u := ⟨_, rfl⟩
              obtain ⟨u147, f147⟩ : ∃ u, ac.tmps.getD 147 undef = u := ⟨_, rfl⟩
              obtain ⟨u148, f148⟩ : ∃ u, ac.tmps.getD 148 undef = u := ⟨_, rfl⟩
              obtain ⟨u149, f149⟩ : ∃ u, ac.tmps.getD 149 undef = u := ⟨_, rfl⟩
              obtain ⟨u150, f150⟩ : ∃ u, ac.tmps.getD 150 undef = u := ⟨_, rfl⟩
              obtain ⟨u151, f151⟩ : ∃ u, ac.tmps.getD 151 undef = u := ⟨_, rfl⟩
              obtain ⟨u152, f152⟩ : ∃ u, ac.tmps.getD 152 undef = u := ⟨_, rfl⟩
              obtain ⟨u153, f153⟩ : ∃ u, ac.tmps.getD 153 undef = u := ⟨_, rfl⟩
              obtain ⟨u154, f154⟩ : ∃ u, ac.tmps.getD 154 undef = u := ⟨_, rfl⟩
              obtain ⟨u155, f155⟩ : ∃ u, ac.tmps.getD 155 undef = u := ⟨_, rfl⟩
              obtain ⟨u156, f156⟩ : ∃ u, ac.tmps.getD 156 undef = u := ⟨_, rfl⟩
              obtain ⟨u157, f157⟩ : ∃ u, ac.tmps.getD 157 undef = u := ⟨_, rfl⟩
              obtain ⟨u158, f158⟩ : ∃ u, ac.tmps.getD 158 undef = u := ⟨_, rfl⟩
              obtain ⟨u159, f159⟩ : ∃ u, ac.tmps.getD 159 undef = u := ⟨_, rfl⟩
              obtain ⟨u160, f160⟩ : ∃ u, ac.tmps.getD 160 undef = u := ⟨_, rfl⟩
              obtain ⟨u161, f161⟩ : ∃ u, ac.tmps.getD 161 undef = u := ⟨_, rfl⟩
              obtain ⟨u162, f162⟩ : ∃ u, ac.tmps.getD 162 undef = u := ⟨_, rfl⟩
              obtain ⟨u163, f163⟩ : ∃ u, ac.tmps.getD 163 undef = u := ⟨_, rfl⟩
              obtain ⟨u164, f164⟩ : ∃ u, ac.tmps.getD 164 undef = u := ⟨_, rfl⟩
              have f165 : ac.tmps.getD 165 undef = .bool false := hJ.at_end 19 165 (by kernel_rfl)
              have hBelow := hJ.below
              obtain ⟨TT, DD⟩ := ac
              obtain rfl : DD = [] := hJ.defers
              have hE := slots_merge [false, false, false, false, false, false, false, false, false, false, false, false, false, false, false, false, false, false, false, false, false, false, false, false, false, false, false, false, false, false, false, false, false, false, false, false, false, false, false, false, false, false, false, false, false, false, false, false, false, false, false, false, false, false, false, false, false, false, false, false, false, false, false, false, false, false, false, false, false, false, false, false, false, false, false, false, false, false, false, false, false, false, false, false, false, false, false, false, false, false, false, false, false, false, false, false, false, false, false, false, false, false, false, false, false, false, false, false, false, false, false, false, false, false, false, false, false, false, false, false, false, false, false, false, false, false, false, false, false, false, false, false, false, false, false, false, false, false, false, false, false, false, false, false, false, false, true, true, true, true, true, true, true, true, true, true, true, true, true, true, true, true, true, true, true, true] 166 hJ.tmps rfl (by kernel_rfl) hJ.outer
              simp only [mergeFrom, Nat.zero_add, Nat.reduceAdd, f146, f147, f148, f149, f150, f151, f152, f153, f154, f155, f156, f157, f158, f159, f160, f161, f162, f163, f164, f165] at hE
              clear hst hJ f146 f147 f148 f149 f150 f151 f152 f153 f154 f155 f156 f157 f158 f159 f160 f161 f162 f163 f164 f165
              subst hE
              have HBZ := Lib.hid (below_then HBW.out hBelow)
              clear hBelow
              go_wp2
              go_roundw
              case rel => exact ⟨k + 1, by omega, by go_num, HBZ.out⟩
              case measure => simp [intOf]; omega
            · obtain rfl : k = us.length := by omega
              clear hBk
              go_wp2
              go_roundw
              case rel => exact ⟨j + 1, by omega, by go_num, HBK.out⟩
              case measure => simp [intOf]; omega
        · obtain rfl : j = A.length := by omega
          have HBZ := Lib.hid (below_then HB7.out hBr)
          clear hBr
          go_wp2
          go_ret
          exact ⟨rfl, HBZ.out⟩
end Go.Proofs.YtcoieohbmkjpoaaGreatDoor
