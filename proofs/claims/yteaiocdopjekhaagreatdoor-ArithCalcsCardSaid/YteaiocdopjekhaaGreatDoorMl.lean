/- KeptInts: a lent slice is found as it was. -/
import Derived.Test.YteaiocdopjekhaaGreatDoorMk
import Derived.Test.YteaiocdopjekhaaGreatDoorRi
import Derived.Test.YteaiocdopjekhaaGreatDoorRm
namespace Go.Proofs.YteaiocdopjekhaaGreatDoor
open Go.RowKit

def mlDescs (l : List Int) (g j cap : Nat) (a : Option Addr) (cp b0 off0 : Nat) (AJ DJ : Int) (B26 B36 B43 B54 : Bool) : List Du := [.val (.int .i64 ((j : Int))), .val (.slice a l.length cp), .val (.int .i64 ((l.length : Int))), .val (.bool (B26)), .val (.bool (B26)), .val (cond (gon (true) (B26) true) (.slice (some ⟨g, 0, none⟩) (l.length + 12) cap) undef), .val (cond (gon (true) (B26) true) (.int .i64 ((j : Int))) undef), .val (cond (gon (true) (B26) true) (.pointer (some ⟨g, j, none⟩)) undef), .val (cond (gon (true) (B26) true) (.int .i64 (AJ)) undef), .val (cond (gon (true) (B26) true) (.slice a l.length cp) undef), .val (cond (gon (true) (B26) true) (.int .i64 ((j : Int))) undef), .val (cond (gon (true) (B26) true) (.pointer (some ⟨b0, off0 + j, none⟩)) undef), .val (cond (gon (true) (B26) true) (.int .i64 (DJ)) undef), .val (cond (gon (true) (B26) true) (.bool (B36)) undef), .val (cond (gon (true) (B26) true) (.bool (!(B36))) undef), .val (.bool ((B26 && !(B36)))), .val (.bool ((B26 && !(B36)))), .val (cond (gon (true) ((B26 && !(B36))) false) (.int .i64 ((j : Int))) undef), .val (cond (gon (true) ((B26 && !(B36))) false) (.slice a l.length cp) undef), .val (cond (gon (true) ((B26 && !(B36))) false) (.int .i64 ((l.length : Int))) undef), .val (cond (gon (true) ((B26 && !(B36))) false) (.bool (B43)) undef), .val (cond (gon (true) ((B26 && !(B36))) false) (.bool (B43)) undef), .val (cond (gon (gon (true) ((B26 && !(B36))) false) (B43) true) (.slice (some ⟨g, 0, none⟩) (l.length + 12) cap) undef), .val (cond (gon (gon (true) ((B26 && !(B36))) false) (B43) true) (.int .i64 ((j : Int))) undef), .val (cond (gon (gon (true) ((B26 && !(B36))) false) (B43) true) (.pointer (some ⟨g, j, none⟩)) undef), .val (cond (gon (gon (true) ((B26 && !(B36))) false) (B43) true) (.int .i64 (AJ)) undef), .val (cond (gon (gon (true) ((B26 && !(B36))) false) (B43) true) (.int .i64 ((j : Int))) undef), .val (cond (gon (gon (true) ((B26 && !(B36))) false) (B43) true) (.slice a l.length cp) undef), .val (cond (gon (gon (true) ((B26 && !(B36))) false) (B43) true) (.int .i64 ((l.length : Int))) undef), .val (cond (gon (gon (true) ((B26 && !(B36))) false) (B43) true) (.int .i64 ((j : Int) - (l.length : Int))) undef), .val (cond (gon (gon (true) ((B26 && !(B36))) false) (B43) true) (.int .i64 (8000024 + ((j : Int) - (l.length : Int)))) undef), .val (cond (gon (gon (true) ((B26 && !(B36))) false) (B43) true) (.bool (B54)) undef), .val (cond (gon (gon (true) ((B26 && !(B36))) false) (B43) true) (.bool (!(B54))) undef), .val (cond (gon (true) ((B26 && !(B36))) false) (.bool ((B43 && !(B54)))) undef), .val (.bool (((B26 && !(B36)) || (B43 && !(B54)))))]

set_option maxRecDepth 100000 in
set_option maxHeartbeats 8000000 in
theorem kept_any (l : List Int) (hl : l.length ≤ 4) (x v : Value) (w : World) (base : Nat) (hx : Lent w base l x) (hv : IntV w v l) :
    Calls Tryz.prog 12 #[x, v] w fun e w' => e = .returned (.bool true) ∧ Below w.heap.size w w' := by
  have hx0 := hx
  obtain ⟨g, cap, cur, rfl, _, hg, hcap, hmx, _⟩ := hx
  obtain ⟨a, cp, rfl, _, hr⟩ := hv
  have HC0 := Lib.hid (fun i hi => hx0.cell i hi)
  have HR0 := Lib.hid hr
  have hgl : g < w.heap.size := (Array.getElem?_eq_some_iff.1 hg).1
  unfold maxLen at hmx
  clear hx0 hr hg
  have w1 : IntKind.i64.wrap ((l.length : Int) + 12) = (l.length : Int) + 12 := IntWalk.i64_in _ (by omega)
  go_enter Tryz.func12, Tryz.ntmps12
  go_wp2
  go_loopw [6] (fun i wr => ∃ j : Nat, j ≤ l.length + 12 ∧ i = .int .i64 j ∧ Below w.heap.size w wr) (fun i _ => l.length + 12 - (intOf i).toNat)
  case atStart => exact ⟨0, by omega, by go_num, Below.refl _ _⟩
  case round =>
    obtain ⟨j, hj, rfl, hB⟩ := hrel
    have HB := Lib.hid hB
    clear hB
    have i0 : (0 : Int) ≤ (j : Int) := by omega
    by_cases hlt : j < l.length + 12
    · have i1 : (j : Int) < (l.length : Int) + 12 := by omega
      have w2 : IntKind.i64.wrap ((j : Int) - (l.length : Int)) = (j : Int) - (l.length : Int) := IntWalk.i64_in _ (by omega)
      obtain ⟨AJ, hAJ⟩ : ∃ z : Int, (l ++ marks)[j]'(by rw [List.length_append, marks_length]; exact hlt) = z := ⟨_, rfl⟩
      obtain ⟨DJ, hDJ⟩ : ∃ z : Int, l.getD j 0 = z := ⟨_, rfl⟩
      have GA := Lib.hid (fun (wx : World) (hb : Below wr.heap.size wr wx) => show wx.cell? ⟨g, j, none⟩ = some (.int .i64 AJ) from
        ((HB.out.trans (hb.mono HB.out.size)).cell (p := ⟨g, j, none⟩) hgl).trans (hAJ ▸ HC0.out j (by rw [List.length_append, marks_length]; exact hlt)))
      obtain ⟨b0, off0, HRx⟩ : ∃ b0 off0, j < l.length → (a = some ⟨b0, off0, none⟩ ∧ ∀ wx : World, Below wr.heap.size wr wx → wx.cell? ⟨b0, off0 + j, none⟩ = some (.int .i64 DJ)) := by
        by_cases hin : j < l.length
        · obtain ⟨b, off, ha, hb, hI⟩ := HR0.out (by intro e; rw [e] at hin; simp at hin)
          refine ⟨b, off, fun _ => ⟨ha, fun wx hbx => ?_⟩⟩
          rw [(HB.out.trans (hbx.mono HB.out.size)).cell (p := ⟨b, off + j, none⟩) hb, hI j hin, ← hDJ]
          simp [hin]
        · exact ⟨0, 0, fun h => absurd h hin⟩
      have HR := Lib.hid HRx
      clear HRx
      have HE : ∀ B26 B36 B43 B54 : Bool, decide ((j : Int) < (l.length : Int)) = B26 → (AJ == DJ) = B36 → decide ((j : Int) ≥ (l.length : Int)) = B43 → (AJ == 8000024 + ((j : Int) - (l.length : Int))) = B54 → ((B26 && !B36) || (B43 && !B54)) = false := by
        rintro _ _ _ _ rfl rfl rfl rfl
        by_cases hin : j < l.length
        · have e : AJ = DJ := by rw [← hAJ, ← hDJ, List.getElem_append_left hin]; simp [hin]
          have : ¬ ((j : Int) ≥ (l.length : Int)) := by omega
          simp [e, this]
        · have e : AJ = 8000024 + ((j : Int) - (l.length : Int)) := by
            rw [← hAJ, List.getElem_append_right (by omega), marks_at]; omega
          have : ¬ ((j : Int) < (l.length : Int)) := by omega
          simp [e, this]
      have HEx := Lib.hid HE
      clear hAJ hDJ HE
      obtain ⟨B26, hB26⟩ : ∃ x : Bool, (decide ((((j : Int) : Int)) < ((l.length : Int)))) = x := ⟨_, rfl⟩
      obtain ⟨B36, hB36⟩ : ∃ x : Bool, (((AJ : Int)) == (DJ)) = x := ⟨_, rfl⟩
      obtain ⟨B43, hB43⟩ : ∃ x : Bool, (decide ((((j : Int) : Int)) ≥ ((l.length : Int)))) = x := ⟨_, rfl⟩
      obtain ⟨B54, hB54⟩ : ∃ x : Bool, (((AJ : Int)) == (8000024 + ((j : Int) - (l.length : Int)))) = x := ⟨_, rfl⟩
      go_wp2
      refine wp_region_grow_or (by kernel_rfl) (FU (mlDescs l g j cap a cp b0 off0 AJ DJ B26 B36 B43 B54)) (FU_grow _) (by kernel_rfl) (steps_or ?_) ?_
      · refine ⟨?_, ?_, ?_, ?_, ?_, ?_, ?_, ?_, ?_, ?_, ?_, ?_, ?_, ?_, ?_, ?_, ?_, ?_, ?_, ?_, ?_, ?_, ?_, ?_, ?_, ?_, ?_, ?_, ?_, ?_, ?_, ?_, ?_, ?_, ?_, trivial⟩
        · intro ac wx hb hd hs ho hp
          refine Or.inl ⟨rfl, ?_⟩
          have h6 : ac.tmps.getD 6 undef = .int .i64 ((j : Int)) := (ho 6 (by kernel_rfl)).trans rfl
          unfold Oper.wp
          go_simp
          exact Stepped.at rfl hd (Below.refl _ _) (FU_mk (.val (.int .i64 ((j : Int)))) rfl (by show (_ : Value) = _; first | rfl | (first | rfl | simp) | (simp [*])))
        · intro ac wx hb hd hs ho hp
          refine Or.inl ⟨rfl, ?_⟩
          have h1 : ac.tmps.getD 1 undef = .slice a l.length cp := (ho 1 (by kernel_rfl)).trans rfl
          unfold Oper.wp
          go_simp
          exact Stepped.at rfl hd (Below.refl _ _) (FU_mk (.val (.slice a l.length cp)) rfl (by show (_ : Value) = _; first | rfl | (first | rfl | simp) | (simp [*])))
        · intro ac wx hb hd hs ho hp
          refine Or.inl ⟨rfl, ?_⟩
          have h24 : ac.tmps.getD 24 undef = .slice a l.length cp := uval_at hp 1 24 (by kernel_rfl) rfl
          unfold Oper.wp
          go_simp
          exact Stepped.at rfl hd (Below.refl _ _) (FU_mk (.val (.int .i64 ((l.length : Int)))) rfl (by show (_ : Value) = _; first | rfl | (first | rfl | simp) | (simp [*])))
        · intro ac wx hb hd hs ho hp
          refine Or.inl ⟨rfl, ?_⟩
          have h23 : ac.tmps.getD 23 undef = .int .i64 ((j : Int)) := uval_at hp 0 23 (by kernel_rfl) rfl
          have h25 : ac.tmps.getD 25 undef = .int .i64 ((l.length : Int)) := uval_at hp 2 25 (by kernel_rfl) rfl
          unfold Oper.wp
          go_simp
          exact Stepped.at rfl hd (Below.refl _ _) (FU_mk (.val (.bool (B26))) rfl (by show (_ : Value) = _; first | rfl | (rw [← hB26]; first | rfl | simp) | (simp [*])))
        · intro ac wx hb hd hs ho hp
          refine Or.inl ⟨rfl, ?_⟩
          have h26 : ac.tmps.getD 26 undef = .bool (B26) := uval_at hp 3 26 (by kernel_rfl) rfl
          unfold Oper.wp
          go_simp
          exact Stepped.at rfl hd (Below.refl _ _) (FU_mk (.val (.bool (B26))) rfl (by show (_ : Value) = _; first | rfl | (first | rfl | simp) | (simp [*])))
        · intro ac wx hb hd hs ho hp
          have hg : ac.tmps.getD 27 undef = cond (true) (.bool (B26)) undef := uval_at hp 4 27 (by kernel_rfl) rfl
          rcases Bool.eq_false_or_eq_true (gon (true) (B26) true) with hc | hc
          rotate_left
          · exact Or.inr ⟨(wanted_gon (k := 4) (d := 27) rfl (by kernel_rfl) hg).trans hc, fun d hd => FU_mk (.val _) rfl (by rw [hc]; rfl)⟩
          refine Or.inl ⟨(wanted_gon (k := 4) (d := 27) rfl (by kernel_rfl) hg).trans hc, ?_⟩
          have HC := Lib.hid hc
          clear hg hc
          have h5 : ac.tmps.getD 5 undef = .slice (some ⟨g, 0, none⟩) (l.length + 12) cap := (ho 5 (by kernel_rfl)).trans rfl
          unfold Oper.wp
          go_simp
          exact Stepped.at rfl hd (Below.refl _ _) (FU_mk (.val (cond (gon (true) (B26) true) (.slice (some ⟨g, 0, none⟩) (l.length + 12) cap) undef)) rfl (by show (_ : Value) = _; first | rfl | (rw [HC.out]; first | rfl | simp) | (rw [HC.out]; simp [*])))
        · intro ac wx hb hd hs ho hp
          have hg : ac.tmps.getD 27 undef = cond (true) (.bool (B26)) undef := uval_at hp 4 27 (by kernel_rfl) rfl
          rcases Bool.eq_false_or_eq_true (gon (true) (B26) true) with hc | hc
          rotate_left
          · exact Or.inr ⟨(wanted_gon (k := 4) (d := 27) rfl (by kernel_rfl) hg).trans hc, fun d hd => FU_mk (.val _) rfl (by rw [hc]; rfl)⟩
          refine Or.inl ⟨(wanted_gon (k := 4) (d := 27) rfl (by kernel_rfl) hg).trans hc, ?_⟩
          have HC := Lib.hid hc
          clear hg hc
          have h6 : ac.tmps.getD 6 undef = .int .i64 ((j : Int)) := (ho 6 (by kernel_rfl)).trans rfl
          unfold Oper.wp
          go_simp
          exact Stepped.at rfl hd (Below.refl _ _) (FU_mk (.val (cond (gon (true) (B26) true) (.int .i64 ((j : Int))) undef)) rfl (by show (_ : Value) = _; first | rfl | (rw [HC.out]; first | rfl | simp) | (rw [HC.out]; simp [*])))
        · intro ac wx hb hd hs ho hp
          have hg : ac.tmps.getD 27 undef = cond (true) (.bool (B26)) undef := uval_at hp 4 27 (by kernel_rfl) rfl
          rcases Bool.eq_false_or_eq_true (gon (true) (B26) true) with hc | hc
          rotate_left
          · exact Or.inr ⟨(wanted_gon (k := 4) (d := 27) rfl (by kernel_rfl) hg).trans hc, fun d hd => FU_mk (.val _) rfl (by rw [hc]; rfl)⟩
          refine Or.inl ⟨(wanted_gon (k := 4) (d := 27) rfl (by kernel_rfl) hg).trans hc, ?_⟩
          have HC := Lib.hid hc
          clear hg hc
          have h28 : ac.tmps.getD 28 undef = cond (gon (true) (B26) true) (.slice (some ⟨g, 0, none⟩) (l.length + 12) cap) undef := uval_at hp 5 28 (by kernel_rfl) rfl
          rw [HC.out, cond_true] at h28
          have h29 : ac.tmps.getD 29 undef = cond (gon (true) (B26) true) (.int .i64 ((j : Int))) undef := uval_at hp 6 29 (by kernel_rfl) rfl
          rw [HC.out, cond_true] at h29
          unfold Oper.wp
          go_simp
          exact Stepped.at rfl hd (Below.refl _ _) (FU_mk (.val (cond (gon (true) (B26) true) (.pointer (some ⟨g, j, none⟩)) undef)) rfl (by show (_ : Value) = _; first | rfl | (rw [HC.out]; first | rfl | simp) | (rw [HC.out]; simp [*])))
        · intro ac wx hb hd hs ho hp
          have hg : ac.tmps.getD 27 undef = cond (true) (.bool (B26)) undef := uval_at hp 4 27 (by kernel_rfl) rfl
          rcases Bool.eq_false_or_eq_true (gon (true) (B26) true) with hc | hc
          rotate_left
          · exact Or.inr ⟨(wanted_gon (k := 4) (d := 27) rfl (by kernel_rfl) hg).trans hc, fun d hd => FU_mk (.val _) rfl (by rw [hc]; rfl)⟩
          refine Or.inl ⟨(wanted_gon (k := 4) (d := 27) rfl (by kernel_rfl) hg).trans hc, ?_⟩
          have HC := Lib.hid hc
          clear hg hc
          have h30 : ac.tmps.getD 30 undef = cond (gon (true) (B26) true) (.pointer (some ⟨g, j, none⟩)) undef := uval_at hp 7 30 (by kernel_rfl) rfl
          rw [HC.out, cond_true] at h30
          have x0 := GA.out wx hb
          unfold Oper.wp
          go_simp
          exact Stepped.at rfl hd (Below.refl _ _) (FU_mk (.val (cond (gon (true) (B26) true) (.int .i64 (AJ)) undef)) rfl (by show (_ : Value) = _; first | rfl | (rw [HC.out]; first | rfl | simp) | (rw [HC.out]; simp [*])))
        · intro ac wx hb hd hs ho hp
          have hg : ac.tmps.getD 27 undef = cond (true) (.bool (B26)) undef := uval_at hp 4 27 (by kernel_rfl) rfl
          rcases Bool.eq_false_or_eq_true (gon (true) (B26) true) with hc | hc
          rotate_left
          · exact Or.inr ⟨(wanted_gon (k := 4) (d := 27) rfl (by kernel_rfl) hg).trans hc, fun d hd => FU_mk (.val _) rfl (by rw [hc]; rfl)⟩
          refine Or.inl ⟨(wanted_gon (k := 4) (d := 27) rfl (by kernel_rfl) hg).trans hc, ?_⟩
          have HC := Lib.hid hc
          clear hg hc
          have h1 : ac.tmps.getD 1 undef = .slice a l.length cp := (ho 1 (by kernel_rfl)).trans rfl
          unfold Oper.wp
          go_simp
          exact Stepped.at rfl hd (Below.refl _ _) (FU_mk (.val (cond (gon (true) (B26) true) (.slice a l.length cp) undef)) rfl (by show (_ : Value) = _; first | rfl | (rw [HC.out]; first | rfl | simp) | (rw [HC.out]; simp [*])))
        · intro ac wx hb hd hs ho hp
          have hg : ac.tmps.getD 27 undef = cond (true) (.bool (B26)) undef := uval_at hp 4 27 (by kernel_rfl) rfl
          rcases Bool.eq_false_or_eq_true (gon (true) (B26) true) with hc | hc
          rotate_left
          · exact Or.inr ⟨(wanted_gon (k := 4) (d := 27) rfl (by kernel_rfl) hg).trans hc, fun d hd => FU_mk (.val _) rfl (by rw [hc]; rfl)⟩
          refine Or.inl ⟨(wanted_gon (k := 4) (d := 27) rfl (by kernel_rfl) hg).trans hc, ?_⟩
          have HC := Lib.hid hc
          clear hg hc
          have h6 : ac.tmps.getD 6 undef = .int .i64 ((j : Int)) := (ho 6 (by kernel_rfl)).trans rfl
          unfold Oper.wp
          go_simp
          exact Stepped.at rfl hd (Below.refl _ _) (FU_mk (.val (cond (gon (true) (B26) true) (.int .i64 ((j : Int))) undef)) rfl (by show (_ : Value) = _; first | rfl | (rw [HC.out]; first | rfl | simp) | (rw [HC.out]; simp [*])))
        · intro ac wx hb hd hs ho hp
          have hg : ac.tmps.getD 27 undef = cond (true) (.bool (B26)) undef := uval_at hp 4 27 (by kernel_rfl) rfl
          rcases Bool.eq_false_or_eq_true (gon (true) (B26) true) with hc | hc
          rotate_left
          · exact Or.inr ⟨(wanted_gon (k := 4) (d := 27) rfl (by kernel_rfl) hg).trans hc, fun d hd => FU_mk (.val _) rfl (by rw [hc]; rfl)⟩
          refine Or.inl ⟨(wanted_gon (k := 4) (d := 27) rfl (by kernel_rfl) hg).trans hc, ?_⟩
          have HC := Lib.hid hc
          clear hg hc
          have h32 : ac.tmps.getD 32 undef = cond (gon (true) (B26) true) (.slice a l.length cp) undef := uval_at hp 9 32 (by kernel_rfl) rfl
          rw [HC.out, cond_true] at h32
          have h33 : ac.tmps.getD 33 undef = cond (gon (true) (B26) true) (.int .i64 ((j : Int))) undef := uval_at hp 10 33 (by kernel_rfl) rfl
          rw [HC.out, cond_true] at h33
          have hj : (j : Int) < (l.length : Int) := by have := gon_r HC.out; rw [← hB26] at this; simpa using this
          obtain ⟨rfl, _⟩ := HR.out (by omega)
          unfold Oper.wp
          go_simp
          exact Stepped.at rfl hd (Below.refl _ _) (FU_mk (.val (cond (gon (true) (B26) true) (.pointer (some ⟨b0, off0 + j, none⟩)) undef)) rfl (by show (_ : Value) = _; first | rfl | (rw [HC.out]; first | rfl | simp) | (rw [HC.out]; simp [*])))
        · intro ac wx hb hd hs ho hp
          have hg : ac.tmps.getD 27 undef = cond (true) (.bool (B26)) undef := uval_at hp 4 27 (by kernel_rfl) rfl
          rcases Bool.eq_false_or_eq_true (gon (true) (B26) true) with hc | hc
          rotate_left
          · exact Or.inr ⟨(wanted_gon (k := 4) (d := 27) rfl (by kernel_rfl) hg).trans hc, fun d hd => FU_mk (.val _) rfl (by rw [hc]; rfl)⟩
          refine Or.inl ⟨(wanted_gon (k := 4) (d := 27) rfl (by kernel_rfl) hg).trans hc, ?_⟩
          have HC := Lib.hid hc
          clear hg hc
          have h34 : ac.tmps.getD 34 undef = cond (gon (true) (B26) true) (.pointer (some ⟨b0, off0 + j, none⟩)) undef := uval_at hp 11 34 (by kernel_rfl) rfl
          rw [HC.out, cond_true] at h34
          have hj : (j : Int) < (l.length : Int) := by have := gon_r HC.out; rw [← hB26] at this; simpa using this
          have x0 := (HR.out (by omega)).2 wx hb
          unfold Oper.wp
          go_simp
          exact Stepped.at rfl hd (Below.refl _ _) (FU_mk (.val (cond (gon (true) (B26) true) (.int .i64 (DJ)) undef)) rfl (by show (_ : Value) = _; first | rfl | (rw [HC.out]; first | rfl | simp) | (rw [HC.out]; simp [*])))
        · intro ac wx hb hd hs ho hp
          have hg : ac.tmps.getD 27 undef = cond (true) (.bool (B26)) undef := uval_at hp 4 27 (by kernel_rfl) rfl
          rcases Bool.eq_false_or_eq_true (gon (true) (B26) true) with hc | hc
          rotate_left
          · exact Or.inr ⟨(wanted_gon (k := 4) (d := 27) rfl (by kernel_rfl) hg).trans hc, fun d hd => FU_mk (.val _) rfl (by rw [hc]; rfl)⟩
          refine Or.inl ⟨(wanted_gon (k := 4) (d := 27) rfl (by kernel_rfl) hg).trans hc, ?_⟩
          have HC := Lib.hid hc
          clear hg hc
          have h31 : ac.tmps.getD 31 undef = cond (gon (true) (B26) true) (.int .i64 (AJ)) undef := uval_at hp 8 31 (by kernel_rfl) rfl
          rw [HC.out, cond_true] at h31
          have h35 : ac.tmps.getD 35 undef = cond (gon (true) (B26) true) (.int .i64 (DJ)) undef := uval_at hp 12 35 (by kernel_rfl) rfl
          rw [HC.out, cond_true] at h35
          unfold Oper.wp
          go_simp
          exact Stepped.at rfl hd (Below.refl _ _) (FU_mk (.val (cond (gon (true) (B26) true) (.bool (B36)) undef)) rfl (by show (_ : Value) = _; first | rfl | (rw [HC.out]; rw [← hB36]; first | rfl | simp) | (rw [HC.out]; simp [*])))
        · intro ac wx hb hd hs ho hp
          have hg : ac.tmps.getD 27 undef = cond (true) (.bool (B26)) undef := uval_at hp 4 27 (by kernel_rfl) rfl
          rcases Bool.eq_false_or_eq_true (gon (true) (B26) true) with hc | hc
          rotate_left
          · exact Or.inr ⟨(wanted_gon (k := 4) (d := 27) rfl (by kernel_rfl) hg).trans hc, fun d hd => FU_mk (.val _) rfl (by rw [hc]; rfl)⟩
          refine Or.inl ⟨(wanted_gon (k := 4) (d := 27) rfl (by kernel_rfl) hg).trans hc, ?_⟩
          have HC := Lib.hid hc
          clear hg hc
          have h36 : ac.tmps.getD 36 undef = cond (gon (true) (B26) true) (.bool (B36)) undef := uval_at hp 13 36 (by kernel_rfl) rfl
          rw [HC.out, cond_true] at h36
          unfold Oper.wp
          go_simp
          exact Stepped.at rfl hd (Below.refl _ _) (FU_mk (.val (cond (gon (true) (B26) true) (.bool (!(B36))) undef)) rfl (by show (_ : Value) = _; first | rfl | (rw [HC.out]; first | rfl | simp) | (rw [HC.out]; simp [*])))
        · intro ac wx hb hd hs ho hp
          refine Or.inl ⟨rfl, ?_⟩
          have h27 : ac.tmps.getD 27 undef = .bool (B26) := uval_at hp 4 27 (by kernel_rfl) rfl
          rcases Bool.eq_false_or_eq_true (B26) with e | e
          · rw [e] at h27
            have E := Lib.hid e
            clear e
            have h37 : ac.tmps.getD 37 undef = cond (gon (true) (B26) true) (.bool (!(B36))) undef := uval_at hp 14 37 (by kernel_rfl) rfl
            rw [gon_mk rfl E.out, cond_true] at h37
            unfold Oper.wp
            go_simp
            exact Stepped.at rfl hd (Below.refl _ _) (FU_mk (.val (.bool ((B26 && !(B36))))) rfl (by show (_ : Value) = _; first | (simp only [E.out, Bool.true_and]; done) | simp [E.out]))
          · rw [e] at h27
            have E := Lib.hid e
            clear e
            unfold Oper.wp
            go_simp
            exact Stepped.at rfl hd (Below.refl _ _) (FU_mk (.val (.bool ((B26 && !(B36))))) rfl (by show (_ : Value) = _; first | (simp only [E.out, Bool.false_and]; done) | simp [E.out]))
        · intro ac wx hb hd hs ho hp
          refine Or.inl ⟨rfl, ?_⟩
          have h38 : ac.tmps.getD 38 undef = .bool ((B26 && !(B36))) := uval_at hp 15 38 (by kernel_rfl) rfl
          unfold Oper.wp
          go_simp
          exact Stepped.at rfl hd (Below.refl _ _) (FU_mk (.val (.bool ((B26 && !(B36))))) rfl (by show (_ : Value) = _; first | rfl | (first | rfl | simp) | (simp [*])))
        · intro ac wx hb hd hs ho hp
          have hg : ac.tmps.getD 39 undef = cond (true) (.bool ((B26 && !(B36)))) undef := uval_at hp 16 39 (by kernel_rfl) rfl
          rcases Bool.eq_false_or_eq_true (gon (true) ((B26 && !(B36))) false) with hc | hc
          rotate_left
          · exact Or.inr ⟨(wanted_gon (k := 16) (d := 39) rfl (by kernel_rfl) hg).trans hc, fun d hd => FU_mk (.val _) rfl (by rw [hc]; rfl)⟩
          refine Or.inl ⟨(wanted_gon (k := 16) (d := 39) rfl (by kernel_rfl) hg).trans hc, ?_⟩
          have HC := Lib.hid hc
          clear hg hc
          have h6 : ac.tmps.getD 6 undef = .int .i64 ((j : Int)) := (ho 6 (by kernel_rfl)).trans rfl
          unfold Oper.wp
          go_simp
          exact Stepped.at rfl hd (Below.refl _ _) (FU_mk (.val (cond (gon (true) ((B26 && !(B36))) false) (.int .i64 ((j : Int))) undef)) rfl (by show (_ : Value) = _; first | rfl | (rw [HC.out]; first | rfl | simp) | (rw [HC.out]; simp [*])))
        · intro ac wx hb hd hs ho hp
          have hg : ac.tmps.getD 39 undef = cond (true) (.bool ((B26 && !(B36)))) undef := uval_at hp 16 39 (by kernel_rfl) rfl
          rcases Bool.eq_false_or_eq_true (gon (true) ((B26 && !(B36))) false) with hc | hc
          rotate_left
          · exact Or.inr ⟨(wanted_gon (k := 16) (d := 39) rfl (by kernel_rfl) hg).trans hc, fun d hd => FU_mk (.val _) rfl (by rw [hc]; rfl)⟩
          refine Or.inl ⟨(wanted_gon (k := 16) (d := 39) rfl (by kernel_rfl) hg).trans hc, ?_⟩
          have HC := Lib.hid hc
          clear hg hc
          have h1 : ac.tmps.getD 1 undef = .slice a l.length cp := (ho 1 (by kernel_rfl)).trans rfl
          unfold Oper.wp
          go_simp
          exact Stepped.at rfl hd (Below.refl _ _) (FU_mk (.val (cond (gon (true) ((B26 && !(B36))) false) (.slice a l.length cp) undef)) rfl (by show (_ : Value) = _; first | rfl | (rw [HC.out]; first | rfl | simp) | (rw [HC.out]; simp [*])))
        · intro ac wx hb hd hs ho hp
          have hg : ac.tmps.getD 39 undef = cond (true) (.bool ((B26 && !(B36)))) undef := uval_at hp 16 39 (by kernel_rfl) rfl
          rcases Bool.eq_false_or_eq_true (gon (true) ((B26 && !(B36))) false) with hc | hc
          rotate_left
          · exact Or.inr ⟨(wanted_gon (k := 16) (d := 39) rfl (by kernel_rfl) hg).trans hc, fun d hd => FU_mk (.val _) rfl (by rw [hc]; rfl)⟩
          refine Or.inl ⟨(wanted_gon (k := 16) (d := 39) rfl (by kernel_rfl) hg).trans hc, ?_⟩
          have HC := Lib.hid hc
          clear hg hc
          have h41 : ac.tmps.getD 41 undef = cond (gon (true) ((B26 && !(B36))) false) (.slice a l.length cp) undef := uval_at hp 18 41 (by kernel_rfl) rfl
          rw [HC.out, cond_true] at h41
          unfold Oper.wp
          go_simp
          exact Stepped.at rfl hd (Below.refl _ _) (FU_mk (.val (cond (gon (true) ((B26 && !(B36))) false) (.int .i64 ((l.length : Int))) undef)) rfl (by show (_ : Value) = _; first | rfl | (rw [HC.out]; first | rfl | simp) | (rw [HC.out]; simp [*])))
        · intro ac wx hb hd hs ho hp
          have hg : ac.tmps.getD 39 undef = cond (true) (.bool ((B26 && !(B36)))) undef := uval_at hp 16 39 (by kernel_rfl) rfl
          rcases Bool.eq_false_or_eq_true (gon (true) ((B26 && !(B36))) false) with hc | hc
          rotate_left
          · exact Or.inr ⟨(wanted_gon (k := 16) (d := 39) rfl (by kernel_rfl) hg).trans hc, fun d hd => FU_mk (.val _) rfl (by rw [hc]; rfl)⟩
          refine Or.inl ⟨(wanted_gon (k := 16) (d := 39) rfl (by kernel_rfl) hg).trans hc, ?_⟩
          have HC := Lib.hid hc
          clear hg hc
          have h40 : ac.tmps.getD 40 undef = cond (gon (true) ((B26 && !(B36))) false) (.int .i64 ((j : Int))) undef := uval_at hp 17 40 (by kernel_rfl) rfl
          rw [HC.out, cond_true] at h40
          have h42 : ac.tmps.getD 42 undef = cond (gon (true) ((B26 && !(B36))) false) (.int .i64 ((l.length : Int))) undef := uval_at hp 19 42 (by kernel_rfl) rfl
          rw [HC.out, cond_true] at h42
          unfold Oper.wp
          go_simp
          exact Stepped.at rfl hd (Below.refl _ _) (FU_mk (.val (cond (gon (true) ((B26 && !(B36))) false) (.bool (B43)) undef)) rfl (by show (_ : Value) = _; first | rfl | (rw [HC.out]; rw [← hB43]; first | rfl | simp) | (rw [HC.out]; simp [*])))
        · intro ac wx hb hd hs ho hp
          have hg : ac.tmps.getD 39 undef = cond (true) (.bool ((B26 && !(B36)))) undef := uval_at hp 16 39 (by kernel_rfl) rfl
          rcases Bool.eq_false_or_eq_true (gon (true) ((B26 && !(B36))) false) with hc | hc
          rotate_left
          · exact Or.inr ⟨(wanted_gon (k := 16) (d := 39) rfl (by kernel_rfl) hg).trans hc, fun d hd => FU_mk (.val _) rfl (by rw [hc]; rfl)⟩
          refine Or.inl ⟨(wanted_gon (k := 16) (d := 39) rfl (by kernel_rfl) hg).trans hc, ?_⟩
          have HC := Lib.hid hc
          clear hg hc
          have h43 : ac.tmps.getD 43 undef = cond (gon (true) ((B26 && !(B36))) false) (.bool (B43)) undef := uval_at hp 20 43 (by kernel_rfl) rfl
          rw [HC.out, cond_true] at h43
          unfold Oper.wp
          go_simp
          exact Stepped.at rfl hd (Below.refl _ _) (FU_mk (.val (cond (gon (true) ((B26 && !(B36))) false) (.bool (B43)) undef)) rfl (by show (_ : Value) = _; first | rfl | (rw [HC.out]; first | rfl | simp) | (rw [HC.out]; simp [*])))
        · intro ac wx hb hd hs ho hp
          have hg : ac.tmps.getD 44 undef = cond (gon (true) ((B26 && !(B36))) false) (.bool (B43)) undef := uval_at hp 21 44 (by kernel_rfl) rfl
          rcases Bool.eq_false_or_eq_true (gon (gon (true) ((B26 && !(B36))) false) (B43) true) with hc | hc
          rotate_left
          · exact Or.inr ⟨(wanted_gon (k := 21) (d := 44) rfl (by kernel_rfl) hg).trans hc, fun d hd => FU_mk (.val _) rfl (by rw [hc]; rfl)⟩
          refine Or.inl ⟨(wanted_gon (k := 21) (d := 44) rfl (by kernel_rfl) hg).trans hc, ?_⟩
          have HC := Lib.hid hc
          clear hg hc
          have h5 : ac.tmps.getD 5 undef = .slice (some ⟨g, 0, none⟩) (l.length + 12) cap := (ho 5 (by kernel_rfl)).trans rfl
          unfold Oper.wp
          go_simp
          exact Stepped.at rfl hd (Below.refl _ _) (FU_mk (.val (cond (gon (gon (true) ((B26 && !(B36))) false) (B43) true) (.slice (some ⟨g, 0, none⟩) (l.length + 12) cap) undef)) rfl (by show (_ : Value) = _; first | rfl | (rw [HC.out]; first | rfl | simp) | (rw [HC.out]; simp [*])))
        · intro ac wx hb hd hs ho hp
          have hg : ac.tmps.getD 44 undef = cond (gon (true) ((B26 && !(B36))) false) (.bool (B43)) undef := uval_at hp 21 44 (by kernel_rfl) rfl
          rcases Bool.eq_false_or_eq_true (gon (gon (true) ((B26 && !(B36))) false) (B43) true) with hc | hc
          rotate_left
          · exact Or.inr ⟨(wanted_gon (k := 21) (d := 44) rfl (by kernel_rfl) hg).trans hc, fun d hd => FU_mk (.val _) rfl (by rw [hc]; rfl)⟩
          refine Or.inl ⟨(wanted_gon (k := 21) (d := 44) rfl (by kernel_rfl) hg).trans hc, ?_⟩
          have HC := Lib.hid hc
          clear hg hc
          have h6 : ac.tmps.getD 6 undef = .int .i64 ((j : Int)) := (ho 6 (by kernel_rfl)).trans rfl
          unfold Oper.wp
          go_simp
          exact Stepped.at rfl hd (Below.refl _ _) (FU_mk (.val (cond (gon (gon (true) ((B26 && !(B36))) false) (B43) true) (.int .i64 ((j : Int))) undef)) rfl (by show (_ : Value) = _; first | rfl | (rw [HC.out]; first | rfl | simp) | (rw [HC.out]; simp [*])))
        · intro ac wx hb hd hs ho hp
          have hg : ac.tmps.getD 44 undef = cond (gon (true) ((B26 && !(B36))) false) (.bool (B43)) undef := uval_at hp 21 44 (by kernel_rfl) rfl
          rcases Bool.eq_false_or_eq_true (gon (gon (true) ((B26 && !(B36))) false) (B43) true) with hc | hc
          rotate_left
          · exact Or.inr ⟨(wanted_gon (k := 21) (d := 44) rfl (by kernel_rfl) hg).trans hc, fun d hd => FU_mk (.val _) rfl (by rw [hc]; rfl)⟩
          refine Or.inl ⟨(wanted_gon (k := 21) (d := 44) rfl (by kernel_rfl) hg).trans hc, ?_⟩
          have HC := Lib.hid hc
          clear hg hc
          have h45 : ac.tmps.getD 45 undef = cond (gon (gon (true) ((B26 && !(B36))) false) (B43) true) (.slice (some ⟨g, 0, none⟩) (l.length + 12) cap) undef := uval_at hp 22 45 (by kernel_rfl) rfl
          rw [HC.out, cond_true] at h45
          have h46 : ac.tmps.getD 46 undef = cond (gon (gon (true) ((B26 && !(B36))) false) (B43) true) (.int .i64 ((j : Int))) undef := uval_at hp 23 46 (by kernel_rfl) rfl
          rw [HC.out, cond_true] at h46
          unfold Oper.wp
          go_simp
          exact Stepped.at rfl hd (Below.refl _ _) (FU_mk (.val (cond (gon (gon (true) ((B26 && !(B36))) false) (B43) true) (.pointer (some ⟨g, j, none⟩)) undef)) rfl (by show (_ : Value) = _; first | rfl | (rw [HC.out]; first | rfl | simp) | (rw [HC.out]; simp [*])))
        · intro ac wx hb hd hs ho hp
          have hg : ac.tmps.getD 44 undef = cond (gon (true) ((B26 && !(B36))) false) (.bool (B43)) undef := uval_at hp 21 44 (by kernel_rfl) rfl
          rcases Bool.eq_false_or_eq_true (gon (gon (true) ((B26 && !(B36))) false) (B43) true) with hc | hc
          rotate_left
          · exact Or.inr ⟨(wanted_gon (k := 21) (d := 44) rfl (by kernel_rfl) hg).trans hc, fun d hd => FU_mk (.val _) rfl (by rw [hc]; rfl)⟩
          refine Or.inl ⟨(wanted_gon (k := 21) (d := 44) rfl (by kernel_rfl) hg).trans hc, ?_⟩
          have HC := Lib.hid hc
          clear hg hc
          have h47 : ac.tmps.getD 47 undef = cond (gon (gon (true) ((B26 && !(B36))) false) (B43) true) (.pointer (some ⟨g, j, none⟩)) undef := uval_at hp 24 47 (by kernel_rfl) rfl
          rw [HC.out, cond_true] at h47
          have x0 := GA.out wx hb
          unfold Oper.wp
          go_simp
          exact Stepped.at rfl hd (Below.refl _ _) (FU_mk (.val (cond (gon (gon (true) ((B26 && !(B36))) false) (B43) true) (.int .i64 (AJ)) undef)) rfl (by show (_ : Value) = _; first | rfl | (rw [HC.out]; first | rfl | simp) | (rw [HC.out]; simp [*])))
        · intro ac wx hb hd hs ho hp
          have hg : ac.tmps.getD 44 undef = cond (gon (true) ((B26 && !(B36))) false) (.bool (B43)) undef := uval_at hp 21 44 (by kernel_rfl) rfl
          rcases Bool.eq_false_or_eq_true (gon (gon (true) ((B26 && !(B36))) false) (B43) true) with hc | hc
          rotate_left
          · exact Or.inr ⟨(wanted_gon (k := 21) (d := 44) rfl (by kernel_rfl) hg).trans hc, fun d hd => FU_mk (.val _) rfl (by rw [hc]; rfl)⟩
          refine Or.inl ⟨(wanted_gon (k := 21) (d := 44) rfl (by kernel_rfl) hg).trans hc, ?_⟩
          have HC := Lib.hid hc
          clear hg hc
          have h6 : ac.tmps.getD 6 undef = .int .i64 ((j : Int)) := (ho 6 (by kernel_rfl)).trans rfl
          unfold Oper.wp
          go_simp
          exact Stepped.at rfl hd (Below.refl _ _) (FU_mk (.val (cond (gon (gon (true) ((B26 && !(B36))) false) (B43) true) (.int .i64 ((j : Int))) undef)) rfl (by show (_ : Value) = _; first | rfl | (rw [HC.out]; first | rfl | simp) | (rw [HC.out]; simp [*])))
        · intro ac wx hb hd hs ho hp
          have hg : ac.tmps.getD 44 undef = cond (gon (true) ((B26 && !(B36))) false) (.bool (B43)) undef := uval_at hp 21 44 (by kernel_rfl) rfl
          rcases Bool.eq_false_or_eq_true (gon (gon (true) ((B26 && !(B36))) false) (B43) true) with hc | hc
          rotate_left
          · exact Or.inr ⟨(wanted_gon (k := 21) (d := 44) rfl (by kernel_rfl) hg).trans hc, fun d hd => FU_mk (.val _) rfl (by rw [hc]; rfl)⟩
          refine Or.inl ⟨(wanted_gon (k := 21) (d := 44) rfl (by kernel_rfl) hg).trans hc, ?_⟩
          have HC := Lib.hid hc
          clear hg hc
          have h1 : ac.tmps.getD 1 undef = .slice a l.length cp := (ho 1 (by kernel_rfl)).trans rfl
          unfold Oper.wp
          go_simp
          exact Stepped.at rfl hd (Below.refl _ _) (FU_mk (.val (cond (gon (gon (true) ((B26 && !(B36))) false) (B43) true) (.slice a l.length cp) undef)) rfl (by show (_ : Value) = _; first | rfl | (rw [HC.out]; first | rfl | simp) | (rw [HC.out]; simp [*])))
        · intro ac wx hb hd hs ho hp
          have hg : ac.tmps.getD 44 undef = cond (gon (true) ((B26 && !(B36))) false) (.bool (B43)) undef := uval_at hp 21 44 (by kernel_rfl) rfl
          rcases Bool.eq_false_or_eq_true (gon (gon (true) ((B26 && !(B36))) false) (B43) true) with hc | hc
          rotate_left
          · exact Or.inr ⟨(wanted_gon (k := 21) (d := 44) rfl (by kernel_rfl) hg).trans hc, fun d hd => FU_mk (.val _) rfl (by rw [hc]; rfl)⟩
          refine Or.inl ⟨(wanted_gon (k := 21) (d := 44) rfl (by kernel_rfl) hg).trans hc, ?_⟩
          have HC := Lib.hid hc
          clear hg hc
          have h50 : ac.tmps.getD 50 undef = cond (gon (gon (true) ((B26 && !(B36))) false) (B43) true) (.slice a l.length cp) undef := uval_at hp 27 50 (by kernel_rfl) rfl
          rw [HC.out, cond_true] at h50
          unfold Oper.wp
          go_simp
          exact Stepped.at rfl hd (Below.refl _ _) (FU_mk (.val (cond (gon (gon (true) ((B26 && !(B36))) false) (B43) true) (.int .i64 ((l.length : Int))) undef)) rfl (by show (_ : Value) = _; first | rfl | (rw [HC.out]; first | rfl | simp) | (rw [HC.out]; simp [*])))
        · intro ac wx hb hd hs ho hp
          have hg : ac.tmps.getD 44 undef = cond (gon (true) ((B26 && !(B36))) false) (.bool (B43)) undef := uval_at hp 21 44 (by kernel_rfl) rfl
          rcases Bool.eq_false_or_eq_true (gon (gon (true) ((B26 && !(B36))) false) (B43) true) with hc | hc
          rotate_left
          · exact Or.inr ⟨(wanted_gon (k := 21) (d := 44) rfl (by kernel_rfl) hg).trans hc, fun d hd => FU_mk (.val _) rfl (by rw [hc]; rfl)⟩
          refine Or.inl ⟨(wanted_gon (k := 21) (d := 44) rfl (by kernel_rfl) hg).trans hc, ?_⟩
          have HC := Lib.hid hc
          clear hg hc
          have h49 : ac.tmps.getD 49 undef = cond (gon (gon (true) ((B26 && !(B36))) false) (B43) true) (.int .i64 ((j : Int))) undef := uval_at hp 26 49 (by kernel_rfl) rfl
          rw [HC.out, cond_true] at h49
          have h51 : ac.tmps.getD 51 undef = cond (gon (gon (true) ((B26 && !(B36))) false) (B43) true) (.int .i64 ((l.length : Int))) undef := uval_at hp 28 51 (by kernel_rfl) rfl
          rw [HC.out, cond_true] at h51
          unfold Oper.wp
          go_simp
          exact Stepped.at rfl hd (Below.refl _ _) (FU_mk (.val (cond (gon (gon (true) ((B26 && !(B36))) false) (B43) true) (.int .i64 ((j : Int) - (l.length : Int))) undef)) rfl (by show (_ : Value) = _; first | rfl | (rw [HC.out]; first | rfl | simp) | (rw [HC.out]; simp [*])))
        · intro ac wx hb hd hs ho hp
          have hg : ac.tmps.getD 44 undef = cond (gon (true) ((B26 && !(B36))) false) (.bool (B43)) undef := uval_at hp 21 44 (by kernel_rfl) rfl
          rcases Bool.eq_false_or_eq_true (gon (gon (true) ((B26 && !(B36))) false) (B43) true) with hc | hc
          rotate_left
          · exact Or.inr ⟨(wanted_gon (k := 21) (d := 44) rfl (by kernel_rfl) hg).trans hc, fun d hd => FU_mk (.val _) rfl (by rw [hc]; rfl)⟩
          refine Or.inl ⟨(wanted_gon (k := 21) (d := 44) rfl (by kernel_rfl) hg).trans hc, ?_⟩
          have HC := Lib.hid hc
          clear hg hc
          have h52 : ac.tmps.getD 52 undef = cond (gon (gon (true) ((B26 && !(B36))) false) (B43) true) (.int .i64 ((j : Int) - (l.length : Int))) undef := uval_at hp 29 52 (by kernel_rfl) rfl
          rw [HC.out, cond_true] at h52
          have hj : (l.length : Int) ≤ (j : Int) := by have := gon_r HC.out; rw [← hB43] at this; simpa using this
          unfold Oper.wp
          go_simp
          refine (mark_any ((j : Int) - (l.length : Int)) (by omega) wx).mono ?_
          rintro e w2 ⟨rfl, rfl⟩
          exact Stepped.at rfl hd (Below.refl _ _) (FU_mk (.val (cond (gon (gon (true) ((B26 && !(B36))) false) (B43) true) (.int .i64 (8000024 + ((j : Int) - (l.length : Int)))) undef)) rfl (by show (_ : Value) = _; first | rfl | (rw [HC.out]; first | rfl | simp) | (rw [HC.out]; simp [*])))
        · intro ac wx hb hd hs ho hp
          have hg : ac.tmps.getD 44 undef = cond (gon (true) ((B26 && !(B36))) false) (.bool (B43)) undef := uval_at hp 21 44 (by kernel_rfl) rfl
          rcases Bool.eq_false_or_eq_true (gon (gon (true) ((B26 && !(B36))) false) (B43) true) with hc | hc
          rotate_left
          · exact Or.inr ⟨(wanted_gon (k := 21) (d := 44) rfl (by kernel_rfl) hg).trans hc, fun d hd => FU_mk (.val _) rfl (by rw [hc]; rfl)⟩
          refine Or.inl ⟨(wanted_gon (k := 21) (d := 44) rfl (by kernel_rfl) hg).trans hc, ?_⟩
          have HC := Lib.hid hc
          clear hg hc
          have h48 : ac.tmps.getD 48 undef = cond (gon (gon (true) ((B26 && !(B36))) false) (B43) true) (.int .i64 (AJ)) undef := uval_at hp 25 48 (by kernel_rfl) rfl
          rw [HC.out, cond_true] at h48
          have h53 : ac.tmps.getD 53 undef = cond (gon (gon (true) ((B26 && !(B36))) false) (B43) true) (.int .i64 (8000024 + ((j : Int) - (l.length : Int)))) undef := uval_at hp 30 53 (by kernel_rfl) rfl
          rw [HC.out, cond_true] at h53
          unfold Oper.wp
          go_simp
          exact Stepped.at rfl hd (Below.refl _ _) (FU_mk (.val (cond (gon (gon (true) ((B26 && !(B36))) false) (B43) true) (.bool (B54)) undef)) rfl (by show (_ : Value) = _; first | rfl | (rw [HC.out]; rw [← hB54]; first | rfl | simp) | (rw [HC.out]; simp [*])))
        · intro ac wx hb hd hs ho hp
          have hg : ac.tmps.getD 44 undef = cond (gon (true) ((B26 && !(B36))) false) (.bool (B43)) undef := uval_at hp 21 44 (by kernel_rfl) rfl
          rcases Bool.eq_false_or_eq_true (gon (gon (true) ((B26 && !(B36))) false) (B43) true) with hc | hc
          rotate_left
          · exact Or.inr ⟨(wanted_gon (k := 21) (d := 44) rfl (by kernel_rfl) hg).trans hc, fun d hd => FU_mk (.val _) rfl (by rw [hc]; rfl)⟩
          refine Or.inl ⟨(wanted_gon (k := 21) (d := 44) rfl (by kernel_rfl) hg).trans hc, ?_⟩
          have HC := Lib.hid hc
          clear hg hc
          have h54 : ac.tmps.getD 54 undef = cond (gon (gon (true) ((B26 && !(B36))) false) (B43) true) (.bool (B54)) undef := uval_at hp 31 54 (by kernel_rfl) rfl
          rw [HC.out, cond_true] at h54
          unfold Oper.wp
          go_simp
          exact Stepped.at rfl hd (Below.refl _ _) (FU_mk (.val (cond (gon (gon (true) ((B26 && !(B36))) false) (B43) true) (.bool (!(B54))) undef)) rfl (by show (_ : Value) = _; first | rfl | (rw [HC.out]; first | rfl | simp) | (rw [HC.out]; simp [*])))
        · intro ac wx hb hd hs ho hp
          have hg : ac.tmps.getD 39 undef = cond (true) (.bool ((B26 && !(B36)))) undef := uval_at hp 16 39 (by kernel_rfl) rfl
          rcases Bool.eq_false_or_eq_true (gon (true) ((B26 && !(B36))) false) with hc | hc
          rotate_left
          · exact Or.inr ⟨(wanted_gon (k := 16) (d := 39) rfl (by kernel_rfl) hg).trans hc, fun d hd => FU_mk (.val _) rfl (by rw [hc]; rfl)⟩
          refine Or.inl ⟨(wanted_gon (k := 16) (d := 39) rfl (by kernel_rfl) hg).trans hc, ?_⟩
          have HC := Lib.hid hc
          clear hg hc
          have h44 : ac.tmps.getD 44 undef = cond (gon (true) ((B26 && !(B36))) false) (.bool (B43)) undef := uval_at hp 21 44 (by kernel_rfl) rfl
          rw [HC.out, cond_true] at h44
          rcases Bool.eq_false_or_eq_true (B43) with e | e
          · rw [e] at h44
            have E := Lib.hid e
            clear e
            have h55 : ac.tmps.getD 55 undef = cond (gon (gon (true) ((B26 && !(B36))) false) (B43) true) (.bool (!(B54))) undef := uval_at hp 32 55 (by kernel_rfl) rfl
            rw [gon_mk HC.out E.out, cond_true] at h55
            unfold Oper.wp
            go_simp
            exact Stepped.at rfl hd (Below.refl _ _) (FU_mk (.val (cond (gon (true) ((B26 && !(B36))) false) (.bool ((B43 && !(B54)))) undef)) rfl (by show (_ : Value) = _; rw [HC.out, cond_true]; first | (simp only [E.out, Bool.true_and]; done) | simp [E.out]))
          · rw [e] at h44
            have E := Lib.hid e
            clear e
            unfold Oper.wp
            go_simp
            exact Stepped.at rfl hd (Below.refl _ _) (FU_mk (.val (cond (gon (true) ((B26 && !(B36))) false) (.bool ((B43 && !(B54)))) undef)) rfl (by show (_ : Value) = _; rw [HC.out, cond_true]; first | (simp only [E.out, Bool.false_and]; done) | simp [E.out]))
        · intro ac wx hb hd hs ho hp
          refine Or.inl ⟨rfl, ?_⟩
          have h39 : ac.tmps.getD 39 undef = .bool ((B26 && !(B36))) := uval_at hp 16 39 (by kernel_rfl) rfl
          rcases Bool.eq_false_or_eq_true ((B26 && !(B36))) with e | e
          · rw [e] at h39
            have E := Lib.hid e
            clear e
            unfold Oper.wp
            go_simp
            exact Stepped.at rfl hd (Below.refl _ _) (FU_mk (.val (.bool (((B26 && !(B36)) || (B43 && !(B54)))))) rfl (by show (_ : Value) = _; first | (simp only [E.out, Bool.true_or]; done) | simp [E.out]))
          · rw [e] at h39
            have E := Lib.hid e
            clear e
            have h56 : ac.tmps.getD 56 undef = cond (gon (true) ((B26 && !(B36))) false) (.bool ((B43 && !(B54)))) undef := uval_at hp 33 56 (by kernel_rfl) rfl
            rw [gon_mk rfl E.out, cond_true] at h56
            unfold Oper.wp
            go_simp
            exact Stepped.at rfl hd (Below.refl _ _) (FU_mk (.val (.bool (((B26 && !(B36)) || (B43 && !(B54)))))) rfl (by show (_ : Value) = _; first | (simp only [E.out, Bool.false_or]; done) | simp [E.out]))
      intro ac wx hJ
      have f57 : ac.tmps.getD 57 undef = .bool (((B26 && !(B36)) || (B43 && !(B54)))) := FU_at (.val (.bool (((B26 && !(B36)) || (B43 && !(B54)))))) rfl (hJ.at_end 34 57 (by kernel_rfl))
      have e57 : (((B26 && !(B36)) || (B43 && !(B54)))) = false := HEx.out _ _ _ _ hB26 hB36 hB43 hB54
      rw [e57] at f57
      clear e57 HEx hB26 hB36 hB43 hB54
      have BX := Lib.hid (HB.out.trans (hJ.below.mono HB.out.size))
      obtain ⟨u23, f23⟩ : ∃ u, ac.tmps.getD 23 undef = u := ⟨_, rfl⟩
      obtain ⟨u24, f24⟩ : ∃ u, ac.tmps.getD 24 undef = u := ⟨_, rfl⟩
      obtain ⟨u25, f25⟩ : ∃ u, ac.tmps.getD 25 undef = u := ⟨_, rfl⟩
      obtain ⟨u26, f26⟩ : ∃ u, ac.tmps.getD 26 undef = u := ⟨_, rfl⟩
      obtain ⟨u27, f27⟩ : ∃ u, ac.tmps.getD 27 undef = u := ⟨_, rfl⟩
      obtain ⟨u28, f28⟩ : ∃ u, ac.tmps.getD 28 undef = u := ⟨_, rfl⟩
      obtain ⟨u29, f29⟩ : ∃ u, ac.tmps.getD 29 undef = u := ⟨_, rfl⟩
      obtain ⟨u30, f30⟩ : ∃ u, ac.tmps.getD 30 undef = u := ⟨_, rfl⟩
      obtain ⟨u31, f31⟩ : ∃ u, ac.tmps.getD 31 undef = u := ⟨_, rfl⟩
      obtain ⟨u32, f32⟩ : ∃ u, ac.tmps.getD 32 undef = u := ⟨_, rfl⟩
      obtain ⟨u33, f33⟩ : ∃ u, ac.tmps.getD 33 undef = u := ⟨_, rfl⟩
      obtain ⟨u34, f34⟩ : ∃ u, ac.tmps.getD 34 undef = u := ⟨_, rfl⟩
      obtain ⟨u35, f35⟩ : ∃ u, ac.tmps.getD 35 undef = u := ⟨_, rfl⟩
      obtain ⟨u36, f36⟩ : ∃ u, ac.tmps.getD 36 undef = u := ⟨_, rfl⟩
      obtain ⟨u37, f37⟩ : ∃ u, ac.tmps.getD 37 undef = u := ⟨_, rfl⟩
      obtain ⟨u38, f38⟩ : ∃ u, ac.tmps.getD 38 undef = u := ⟨_, rfl⟩
      obtain ⟨u39, f39⟩ : ∃ u, ac.tmps.getD 39 undef = u := ⟨_, rfl⟩
      obtain ⟨u40, f40⟩ : ∃ u, ac.tmps.getD 40 undef = u := ⟨_, rfl⟩
      obtain ⟨u41, f41⟩ : ∃ u, ac.tmps.getD 41 undef = u := ⟨_, rfl⟩
      obtain ⟨u42, f42⟩ : ∃ u, ac.tmps.getD 42 undef = u := ⟨_, rfl⟩
      obtain ⟨u43, f43⟩ : ∃ u, ac.tmps.getD 43 undef = u := ⟨_, rfl⟩
      obtain ⟨u44, f44⟩ : ∃ u, ac.tmps.getD 44 undef = u := ⟨_, rfl⟩
      obtain ⟨u45, f45⟩ : ∃ u, ac.tmps.getD 45 undef = u := ⟨_, rfl⟩
      obtain ⟨u46, f46⟩ : ∃ u, ac.tmps.getD 46 undef = u := ⟨_, rfl⟩
      obtain ⟨u47, f47⟩ : ∃ u, ac.tmps.getD 47 undef = u := ⟨_, rfl⟩
      obtain ⟨u48, f48⟩ : ∃ u, ac.tmps.getD 48 undef = u := ⟨_, rfl⟩
      obtain ⟨u49, f49⟩ : ∃ u, ac.tmps.getD 49 undef = u := ⟨_, rfl⟩
      obtain ⟨u50, f50⟩ : ∃ u, ac.tmps.getD 50 undef = u := ⟨_, rfl⟩
      obtain ⟨u51, f51⟩ : ∃ u, ac.tmps.getD 51 undef = u := ⟨_, rfl⟩
      obtain ⟨u52, f52⟩ : ∃ u, ac.tmps.getD 52 undef = u := ⟨_, rfl⟩
      obtain ⟨u53, f53⟩ : ∃ u, ac.tmps.getD 53 undef = u := ⟨_, rfl⟩
      obtain ⟨u54, f54⟩ : ∃ u, ac.tmps.getD 54 undef = u := ⟨_, rfl⟩
      obtain ⟨u55, f55⟩ : ∃ u, ac.tmps.getD 55 undef = u := ⟨_, rfl⟩
      obtain ⟨u56, f56⟩ : ∃ u, ac.tmps.getD 56 undef = u := ⟨_, rfl⟩
      obtain ⟨T, D⟩ := ac
      obtain rfl : D = [] := hJ.defers
      have hE := slots_merge [false, false, false, false, false, false, false, false, false, false, false, false, false, false, false, false, false, false, false, false, false, false, false, true, true, true, true, true, true, true, true, true, true, true, true, true, true, true, true, true, true, true, true, true, true, true, true, true, true, true, true, true, true, true, true, true, true, true] 58 hJ.tmps rfl (by kernel_rfl) hJ.outer
      simp only [mergeFrom, Nat.zero_add, Nat.reduceAdd, f23, f24, f25, f26, f27, f28, f29, f30, f31, f32, f33, f34, f35, f36, f37, f38, f39, f40, f41, f42, f43, f44, f45, f46, f47, f48, f49, f50, f51, f52, f53, f54, f55, f56, f57] at hE
      clear hJ f23 f24 f25 f26 f27 f28 f29 f30 f31 f32 f33 f34 f35 f36 f37 f38 f39 f40 f41 f42 f43 f44 f45 f46 f47 f48 f49 f50 f51 f52 f53 f54 f55 f56 f57
      subst hE
      go_wp2
      go_roundw
      case rel => exact ⟨j + 1, by omega, by go_num, BX.out⟩
      case measure => simp [intOf]; omega
    · have i1 : ¬ (j : Int) < (l.length : Int) + 12 := by omega
      go_wp2
      go_ret
      exact ⟨rfl, HB.out⟩
end Go.Proofs.YteaiocdopjekhaaGreatDoor
