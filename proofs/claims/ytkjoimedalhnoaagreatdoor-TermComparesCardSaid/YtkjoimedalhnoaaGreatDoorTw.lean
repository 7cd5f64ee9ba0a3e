/- The law of comparisons: two, and its walk. -/
import Derived.Test.YtkjoimedalhnoaaGreatDoorLo
import Derived.Test.YtkjoimedalhnoaaGreatDoorRw
import Derived.Test.YtkjoimedalhnoaaGreatDoorRe
namespace Go.Proofs.YtkjoimedalhnoaaGreatDoor
open Go.RowKit

theorem rcompare_ever {w : World} {a0 a1 a2 a3 b0 b1 b2 b3 : Value} {ta tb : Tm} (hA : IsTm w.heap.size w a0 a1 a2 a3 ta) (hB : IsTm w.heap.size w b0 b1 b2 b3 tb) (hc : ta.count ≤ 1000000) :
    Ever w.heap.size w 52 #[.agg #[a0, a1, a2, a3], .agg #[b0, b1, b2, b3]] (.int .i64 (Tm.cmp ta tb)) := fun w' h => rcompare_any ta tb _ _ _ _ _ _ _ _ w' ((hA.below h).mono h.size) ((hB.below h).mono h.size) hc
theorem requal_ever {w : World} {a0 a1 a2 a3 b0 b1 b2 b3 : Value} {ta tb : Tm} (hA : IsTm w.heap.size w a0 a1 a2 a3 ta) (hB : IsTm w.heap.size w b0 b1 b2 b3 tb) :
    Ever w.heap.size w 53 #[.agg #[a0, a1, a2, a3], .agg #[b0, b1, b2, b3]] (.bool (Tm.cmp ta tb == 0)) := fun w' h => requal_any ta tb _ _ _ _ _ _ _ _ w' ((hA.below h).mono h.size) ((hB.below h).mono h.size)

def twDescs (a0 a1 a2 a3 b0 b1 b2 b3 : Value) (x y : Int) : List Desc := [
  .val (.agg #[a0, a1, a2, a3]),
  .val (.agg #[b0, b1, b2, b3]),
  .val (.int .i64 x),
  .val (.agg #[a0, a1, a2, a3]),
  .val (.agg #[b0, b1, b2, b3]),
  .val (.int .i64 x),
  .val (.bool true),
  .val (.bool true),
  .val (.agg #[b0, b1, b2, b3]),
  .val (.agg #[a0, a1, a2, a3]),
  .val (.int .i64 y),
  .val (.agg #[b0, b1, b2, b3]),
  .val (.agg #[a0, a1, a2, a3]),
  .val (.int .i64 y),
  .val (.bool true),
  .val (.bool true),
  .val (.bool true),
  .val (.agg #[a0, a1, a2, a3]),
  .val (.agg #[b0, b1, b2, b3]),
  .val (.bool (x == 0)),
  .val (.agg #[a0, a1, a2, a3]),
  .val (.agg #[b0, b1, b2, b3]),
  .val (.bool (x == 0)),
  .val (.bool true),
  .val (.bool true),
  .val (.bool true)]

set_option maxRecDepth 100000 in
set_option maxHeartbeats 20000000 in
theorem two_any (ta tb : Tm) (a0 a1 a2 a3 b0 b1 b2 b3 : Value) (w : World) (hA0 : IsTm w.heap.size w a0 a1 a2 a3 ta) (hB0 : IsTm w.heap.size w b0 b1 b2 b3 tb) (hca : ta.count ≤ 1000000) (hcb : tb.count ≤ 1000000) :
    Calls Tryz.prog 16 #[.agg #[a0, a1, a2, a3], .agg #[b0, b1, b2, b3]] w fun e w' => e = .returned (.bool true) ∧ Below w.heap.size w w' := by
  have hBx : Below w.heap.size w ((w.alloc (.cells #[a0, a1, a2, a3] 24)).alloc (.cells #[b0, b1, b2, b3] 24)) := ((Below.refl _ w).alloc (Nat.le_refl _) _).alloc (by simp) _
  have r2 : HasRow w.heap.size #[a0, a1, a2, a3] ((w.alloc (.cells #[a0, a1, a2, a3] 24)).alloc (.cells #[b0, b1, b2, b3] 24)) :=
    HasRow.grow (World.alloc_heap_new w _) ((Below.refl _ _).alloc (Nat.le_refl _) _)
  have r3 : HasRow (w.heap.size + 1) #[b0, b1, b2, b3] ((w.alloc (.cells #[a0, a1, a2, a3] 24)).alloc (.cells #[b0, b1, b2, b3] 24)) := by
    have := World.alloc_heap_new (w.alloc (.cells #[a0, a1, a2, a3] 24)) (.cells #[b0, b1, b2, b3] 24)
    rw [World.size_alloc] at this; exact this
  go_enter Tryz.func16, Tryz.ntmps16
  go_wp2_with fail
  revert hBx r2 r3
  generalize ((w.alloc (.cells #[a0, a1, a2, a3] 24)).alloc (.cells #[b0, b1, b2, b3] 24)) = W0
  intro hBx r2 r3
  have hA := (hA0.below hBx).mono hBx.size
  have hB := (hB0.below hBx).mono hBx.size
  have hx := compare_ever hA hB
  have hrx := rcompare_ever hA hB hca
  have hy := compare_ever hB hA
  have hry := rcompare_ever hB hA hcb
  have he := equal_ever hA hB
  have hre := requal_ever hA hB
  obtain ⟨x, hxe⟩ : ∃ x, Tm.cmp ta tb = x := ⟨_, rfl⟩
  obtain ⟨y, hye⟩ : ∃ y, Tm.cmp tb ta = y := ⟨_, rfl⟩
  rw [hxe] at hx hrx he hre
  rw [hye] at hy hry
  have HX := Lib.hid hx
  have HRX := Lib.hid hrx
  have HY := Lib.hid hy
  have HRY := Lib.hid hry
  have HE := Lib.hid he
  have HRE := Lib.hid hre
  clear hx hrx hy hry he hre hxe hye hA hB hA0 hB0 hca hcb
  rename_i K hK
  refine wp_region_grow (by kernel_rfl) (FD (twDescs a0 a1 a2 a3 b0 b1 b2 b3 x y)) (FD_grow _) (by kernel_rfl) (steps_all ?_) ?_
  · refine ⟨?_, ?_, ?_, ?_, ?_, ?_, ?_, ?_, ?_, ?_, ?_, ?_, ?_, ?_, ?_, ?_, ?_, ?_, ?_, ?_, ?_, ?_, ?_, ?_, ?_, ?_, trivial⟩
    · intro a wx hb hd hs ho hp
      refine ⟨rfl, ?_⟩
      have h2 : a.tmps.getD 2 undef = _ := (ho 2 (by kernel_rfl)).trans rfl
      have hx := HasRow.grow r2 hb
      have x0 := cells_at hx 0 _ rfl
      have x1 := cells_at hx 1 _ rfl
      have x2 := cells_at hx 2 _ rfl
      have x3 := cells_at hx 3 _ rfl
      unfold Oper.wp
      go_simp
      exact Stepped.at rfl hd (Below.refl _ _) (FD_mk (.val (.agg #[a0, a1, a2, a3])) rfl rfl)
    · intro a wx hb hd hs ho hp
      refine ⟨rfl, ?_⟩
      have h3 : a.tmps.getD 3 undef = _ := (ho 3 (by kernel_rfl)).trans rfl
      have hx := HasRow.grow r3 hb
      have x0 := cells_at hx 0 _ rfl
      have x1 := cells_at hx 1 _ rfl
      have x2 := cells_at hx 2 _ rfl
      have x3 := cells_at hx 3 _ rfl
      unfold Oper.wp
      go_simp
      exact Stepped.at rfl hd (Below.refl _ _) (FD_mk (.val (.agg #[b0, b1, b2, b3])) rfl rfl)
    · intro a wx hb hd hs ho hp
      refine ⟨rfl, ?_⟩
      have h5 : a.tmps.getD 5 undef = .agg #[a0, a1, a2, a3] := val_at hp 0 5 (by kernel_rfl) rfl
      have h6 : a.tmps.getD 6 undef = .agg #[b0, b1, b2, b3] := val_at hp 1 6 (by kernel_rfl) rfl
      unfold Oper.wp
      go_simp
      refine ((HX.out _ hb)).mono ?_
      rintro e w2 ⟨rfl, hb2⟩
      exact Stepped.at rfl hd hb2 (FD_mk (.val (.int .i64 x)) rfl rfl)
    · intro a wx hb hd hs ho hp
      refine ⟨rfl, ?_⟩
      have h2 : a.tmps.getD 2 undef = _ := (ho 2 (by kernel_rfl)).trans rfl
      have hx := HasRow.grow r2 hb
      have x0 := cells_at hx 0 _ rfl
      have x1 := cells_at hx 1 _ rfl
      have x2 := cells_at hx 2 _ rfl
      have x3 := cells_at hx 3 _ rfl
      unfold Oper.wp
      go_simp
      exact Stepped.at rfl hd (Below.refl _ _) (FD_mk (.val (.agg #[a0, a1, a2, a3])) rfl rfl)
    · intro a wx hb hd hs ho hp
      refine ⟨rfl, ?_⟩
      have h3 : a.tmps.getD 3 undef = _ := (ho 3 (by kernel_rfl)).trans rfl
      have hx := HasRow.grow r3 hb
      have x0 := cells_at hx 0 _ rfl
      have x1 := cells_at hx 1 _ rfl
      have x2 := cells_at hx 2 _ rfl
      have x3 := cells_at hx 3 _ rfl
      unfold Oper.wp
      go_simp
      exact Stepped.at rfl hd (Below.refl _ _) (FD_mk (.val (.agg #[b0, b1, b2, b3])) rfl rfl)
    · intro a wx hb hd hs ho hp
      refine ⟨rfl, ?_⟩
      have h8 : a.tmps.getD 8 undef = .agg #[a0, a1, a2, a3] := val_at hp 3 8 (by kernel_rfl) rfl
      have h9 : a.tmps.getD 9 undef = .agg #[b0, b1, b2, b3] := val_at hp 4 9 (by kernel_rfl) rfl
      unfold Oper.wp
      go_simp
      refine ((HRX.out _ hb)).mono ?_
      rintro e w2 ⟨rfl, hb2⟩
      exact Stepped.at rfl hd hb2 (FD_mk (.val (.int .i64 x)) rfl rfl)
    · intro a wx hb hd hs ho hp
      refine ⟨rfl, ?_⟩
      have h7 : a.tmps.getD 7 undef = .int .i64 x := val_at hp 2 7 (by kernel_rfl) rfl
      have h10 : a.tmps.getD 10 undef = .int .i64 x := val_at hp 5 10 (by kernel_rfl) rfl
      unfold Oper.wp
      go_simp
      exact Stepped.at rfl hd (Below.refl _ _) (FD_mk (.val (.bool true)) rfl (by first | rfl | simp))
    · intro a wx hb hd hs ho hp
      refine ⟨rfl, ?_⟩
      have h11 : a.tmps.getD 11 undef = .bool true := val_at hp 6 11 (by kernel_rfl) rfl
      unfold Oper.wp
      go_simp
      exact Stepped.at rfl hd (Below.refl _ _) (FD_mk (.val (.bool true)) rfl (by first | rfl | simp))
    · intro a wx hb hd hs ho hp
      refine ⟨wanted_of rfl (yielded_at (k := 7) (d := 12) (by kernel_rfl) (val_at hp 7 12 (by kernel_rfl) rfl)), ?_⟩
      have h3 : a.tmps.getD 3 undef = _ := (ho 3 (by kernel_rfl)).trans rfl
      have hx := HasRow.grow r3 hb
      have x0 := cells_at hx 0 _ rfl
      have x1 := cells_at hx 1 _ rfl
      have x2 := cells_at hx 2 _ rfl
      have x3 := cells_at hx 3 _ rfl
      unfold Oper.wp
      go_simp
      exact Stepped.at rfl hd (Below.refl _ _) (FD_mk (.val (.agg #[b0, b1, b2, b3])) rfl rfl)
    · intro a wx hb hd hs ho hp
      refine ⟨wanted_of rfl (yielded_at (k := 7) (d := 12) (by kernel_rfl) (val_at hp 7 12 (by kernel_rfl) rfl)), ?_⟩
      have h2 : a.tmps.getD 2 undef = _ := (ho 2 (by kernel_rfl)).trans rfl
      have hx := HasRow.grow r2 hb
      have x0 := cells_at hx 0 _ rfl
      have x1 := cells_at hx 1 _ rfl
      have x2 := cells_at hx 2 _ rfl
      have x3 := cells_at hx 3 _ rfl
      unfold Oper.wp
      go_simp
      exact Stepped.at rfl hd (Below.refl _ _) (FD_mk (.val (.agg #[a0, a1, a2, a3])) rfl rfl)
    · intro a wx hb hd hs ho hp
      refine ⟨wanted_of rfl (yielded_at (k := 7) (d := 12) (by kernel_rfl) (val_at hp 7 12 (by kernel_rfl) rfl)), ?_⟩
      have h13 : a.tmps.getD 13 undef = .agg #[b0, b1, b2, b3] := val_at hp 8 13 (by kernel_rfl) rfl
      have h14 : a.tmps.getD 14 undef = .agg #[a0, a1, a2, a3] := val_at hp 9 14 (by kernel_rfl) rfl
      unfold Oper.wp
      go_simp
      refine ((HY.out _ hb)).mono ?_
      rintro e w2 ⟨rfl, hb2⟩
      exact Stepped.at rfl hd hb2 (FD_mk (.val (.int .i64 y)) rfl rfl)
    · intro a wx hb hd hs ho hp
      refine ⟨wanted_of rfl (yielded_at (k := 7) (d := 12) (by kernel_rfl) (val_at hp 7 12 (by kernel_rfl) rfl)), ?_⟩
      have h3 : a.tmps.getD 3 undef = _ := (ho 3 (by kernel_rfl)).trans rfl
      have hx := HasRow.grow r3 hb
      have x0 := cells_at hx 0 _ rfl
      have x1 := cells_at hx 1 _ rfl
      have x2 := cells_at hx 2 _ rfl
      have x3 := cells_at hx 3 _ rfl
      unfold Oper.wp
      go_simp
      exact Stepped.at rfl hd (Below.refl _ _) (FD_mk (.val (.agg #[b0, b1, b2, b3])) rfl rfl)
    · intro a wx hb hd hs ho hp
      refine ⟨wanted_of rfl (yielded_at (k := 7) (d := 12) (by kernel_rfl) (val_at hp 7 12 (by kernel_rfl) rfl)), ?_⟩
      have h2 : a.tmps.getD 2 undef = _ := (ho 2 (by kernel_rfl)).trans rfl
      have hx := HasRow.grow r2 hb
      have x0 := cells_at hx 0 _ rfl
      have x1 := cells_at hx 1 _ rfl
      have x2 := cells_at hx 2 _ rfl
      have x3 := cells_at hx 3 _ rfl
      unfold Oper.wp
      go_simp
      exact Stepped.at rfl hd (Below.refl _ _) (FD_mk (.val (.agg #[a0, a1, a2, a3])) rfl rfl)
    · intro a wx hb hd hs ho hp
      refine ⟨wanted_of rfl (yielded_at (k := 7) (d := 12) (by kernel_rfl) (val_at hp 7 12 (by kernel_rfl) rfl)), ?_⟩
      have h16 : a.tmps.getD 16 undef = .agg #[b0, b1, b2, b3] := val_at hp 11 16 (by kernel_rfl) rfl
      have h17 : a.tmps.getD 17 undef = .agg #[a0, a1, a2, a3] := val_at hp 12 17 (by kernel_rfl) rfl
      unfold Oper.wp
      go_simp
      refine ((HRY.out _ hb)).mono ?_
      rintro e w2 ⟨rfl, hb2⟩
      exact Stepped.at rfl hd hb2 (FD_mk (.val (.int .i64 y)) rfl rfl)
    · intro a wx hb hd hs ho hp
      refine ⟨wanted_of rfl (yielded_at (k := 7) (d := 12) (by kernel_rfl) (val_at hp 7 12 (by kernel_rfl) rfl)), ?_⟩
      have h15 : a.tmps.getD 15 undef = .int .i64 y := val_at hp 10 15 (by kernel_rfl) rfl
      have h18 : a.tmps.getD 18 undef = .int .i64 y := val_at hp 13 18 (by kernel_rfl) rfl
      unfold Oper.wp
      go_simp
      exact Stepped.at rfl hd (Below.refl _ _) (FD_mk (.val (.bool true)) rfl (by first | rfl | simp))
    · intro a wx hb hd hs ho hp
      refine ⟨rfl, ?_⟩
      have h12 : a.tmps.getD 12 undef = .bool true := val_at hp 7 12 (by kernel_rfl) rfl
      have h19 : a.tmps.getD 19 undef = .bool true := val_at hp 14 19 (by kernel_rfl) rfl
      unfold Oper.wp
      go_simp
      exact Stepped.at rfl hd (Below.refl _ _) (FD_mk (.val (.bool true)) rfl (by first | rfl | simp))
    · intro a wx hb hd hs ho hp
      refine ⟨rfl, ?_⟩
      have h20 : a.tmps.getD 20 undef = .bool true := val_at hp 15 20 (by kernel_rfl) rfl
      unfold Oper.wp
      go_simp
      exact Stepped.at rfl hd (Below.refl _ _) (FD_mk (.val (.bool true)) rfl (by first | rfl | simp))
    · intro a wx hb hd hs ho hp
      refine ⟨wanted_of rfl (yielded_at (k := 16) (d := 21) (by kernel_rfl) (val_at hp 16 21 (by kernel_rfl) rfl)), ?_⟩
      have h2 : a.tmps.getD 2 undef = _ := (ho 2 (by kernel_rfl)).trans rfl
      have hx := HasRow.grow r2 hb
      have x0 := cells_at hx 0 _ rfl
      have x1 := cells_at hx 1 _ rfl
      have x2 := cells_at hx 2 _ rfl
      have x3 := cells_at hx 3 _ rfl
      unfold Oper.wp
      go_simp
      exact Stepped.at rfl hd (Below.refl _ _) (FD_mk (.val (.agg #[a0, a1, a2, a3])) rfl rfl)
    · intro a wx hb hd hs ho hp
      refine ⟨wanted_of rfl (yielded_at (k := 16) (d := 21) (by kernel_rfl) (val_at hp 16 21 (by kernel_rfl) rfl)), ?_⟩
      have h3 : a.tmps.getD 3 undef = _ := (ho 3 (by kernel_rfl)).trans rfl
      have hx := HasRow.grow r3 hb
      have x0 := cells_at hx 0 _ rfl
      have x1 := cells_at hx 1 _ rfl
      have x2 := cells_at hx 2 _ rfl
      have x3 := cells_at hx 3 _ rfl
      unfold Oper.wp
      go_simp
      exact Stepped.at rfl hd (Below.refl _ _) (FD_mk (.val (.agg #[b0, b1, b2, b3])) rfl rfl)
    · intro a wx hb hd hs ho hp
      refine ⟨wanted_of rfl (yielded_at (k := 16) (d := 21) (by kernel_rfl) (val_at hp 16 21 (by kernel_rfl) rfl)), ?_⟩
      have h22 : a.tmps.getD 22 undef = .agg #[a0, a1, a2, a3] := val_at hp 17 22 (by kernel_rfl) rfl
      have h23 : a.tmps.getD 23 undef = .agg #[b0, b1, b2, b3] := val_at hp 18 23 (by kernel_rfl) rfl
      unfold Oper.wp
      go_simp
      refine ((HE.out _ hb)).mono ?_
      rintro e w2 ⟨rfl, hb2⟩
      exact Stepped.at rfl hd hb2 (FD_mk (.val (.bool (x == 0))) rfl rfl)
    · intro a wx hb hd hs ho hp
      refine ⟨wanted_of rfl (yielded_at (k := 16) (d := 21) (by kernel_rfl) (val_at hp 16 21 (by kernel_rfl) rfl)), ?_⟩
      have h2 : a.tmps.getD 2 undef = _ := (ho 2 (by kernel_rfl)).trans rfl
      have hx := HasRow.grow r2 hb
      have x0 := cells_at hx 0 _ rfl
      have x1 := cells_at hx 1 _ rfl
      have x2 := cells_at hx 2 _ rfl
      have x3 := cells_at hx 3 _ rfl
      unfold Oper.wp
      go_simp
      exact Stepped.at rfl hd (Below.refl _ _) (FD_mk (.val (.agg #[a0, a1, a2, a3])) rfl rfl)
    · intro a wx hb hd hs ho hp
      refine ⟨wanted_of rfl (yielded_at (k := 16) (d := 21) (by kernel_rfl) (val_at hp 16 21 (by kernel_rfl) rfl)), ?_⟩
      have h3 : a.tmps.getD 3 undef = _ := (ho 3 (by kernel_rfl)).trans rfl
      have hx := HasRow.grow r3 hb
      have x0 := cells_at hx 0 _ rfl
      have x1 := cells_at hx 1 _ rfl
      have x2 := cells_at hx 2 _ rfl
      have x3 := cells_at hx 3 _ rfl
      unfold Oper.wp
      go_simp
      exact Stepped.at rfl hd (Below.refl _ _) (FD_mk (.val (.agg #[b0, b1, b2, b3])) rfl rfl)
    · intro a wx hb hd hs ho hp
      refine ⟨wanted_of rfl (yielded_at (k := 16) (d := 21) (by kernel_rfl) (val_at hp 16 21 (by kernel_rfl) rfl)), ?_⟩
      have h25 : a.tmps.getD 25 undef = .agg #[a0, a1, a2, a3] := val_at hp 20 25 (by kernel_rfl) rfl
      have h26 : a.tmps.getD 26 undef = .agg #[b0, b1, b2, b3] := val_at hp 21 26 (by kernel_rfl) rfl
      unfold Oper.wp
      go_simp
      refine ((HRE.out _ hb)).mono ?_
      rintro e w2 ⟨rfl, hb2⟩
      exact Stepped.at rfl hd hb2 (FD_mk (.val (.bool (x == 0))) rfl rfl)
    · intro a wx hb hd hs ho hp
      refine ⟨wanted_of rfl (yielded_at (k := 16) (d := 21) (by kernel_rfl) (val_at hp 16 21 (by kernel_rfl) rfl)), ?_⟩
      have h24 : a.tmps.getD 24 undef = .bool (x == 0) := val_at hp 19 24 (by kernel_rfl) rfl
      have h27 : a.tmps.getD 27 undef = .bool (x == 0) := val_at hp 22 27 (by kernel_rfl) rfl
      unfold Oper.wp
      go_simp
      exact Stepped.at rfl hd (Below.refl _ _) (FD_mk (.val (.bool true)) rfl (by first | rfl | simp))
    · intro a wx hb hd hs ho hp
      refine ⟨rfl, ?_⟩
      have h21 : a.tmps.getD 21 undef = .bool true := val_at hp 16 21 (by kernel_rfl) rfl
      have h28 : a.tmps.getD 28 undef = .bool true := val_at hp 23 28 (by kernel_rfl) rfl
      unfold Oper.wp
      go_simp
      exact Stepped.at rfl hd (Below.refl _ _) (FD_mk (.val (.bool true)) rfl (by first | rfl | simp))
    · intro a wx hb hd hs ho hp
      refine ⟨rfl, ?_⟩
      have h29 : a.tmps.getD 29 undef = .bool true := val_at hp 24 29 (by kernel_rfl) rfl
      unfold Oper.wp
      go_simp
      exact Stepped.at rfl hd (Below.refl _ _) (FD_mk (.val (.bool true)) rfl (by first | rfl | simp))
  intro a wx hJ
  have h0 : a.tmps.getD 4 undef = .bool true := FD_at (.val (.bool true)) rfl (hJ.at_end 25 4 (by kernel_rfl))
  have hd0 : a.defers = [] := hJ.defers
  have hBf := hBx.trans (hJ.below.mono hBx.size)
  refine hK _ _ ?_
  clear hJ
  go_wp2_with fail
  refine bodyPost_ret (results_tmp rfl _ _ _) hd0 ?_
  rw [h0]
  exact ⟨rfl, hBf⟩

set_option maxRecDepth 100000 in
set_option maxHeartbeats 20000000 in
theorem compares_any (ta tb : Tm) (a0 a1 a2 a3 b0 b1 b2 b3 : Value) (w : World) (hA0 : IsTm w.heap.size w a0 a1 a2 a3 ta) (hB0 : IsTm w.heap.size w b0 b1 b2 b3 tb)
    (hgl0 : 2 < w.heap.size) (htab0 : Lib.TabIs Tryz.prog w "internal/strconv.uint64pow10" .u64 Lib.pow10Tab) :
    Calls Tryz.prog 3 #[.agg #[a0, a1, a2, a3], .agg #[b0, b1, b2, b3]] w fun e w' => e = .returned (.bool true) ∧ Below w.heap.size w w' := by
  have hBx : Below w.heap.size w ((w.alloc (.cells #[a0, a1, a2, a3] 24)).alloc (.cells #[b0, b1, b2, b3] 24)) := ((Below.refl _ w).alloc (Nat.le_refl _) _).alloc (by simp) _
  have r2 : HasRow w.heap.size #[a0, a1, a2, a3] ((w.alloc (.cells #[a0, a1, a2, a3] 24)).alloc (.cells #[b0, b1, b2, b3] 24)) :=
    HasRow.grow (World.alloc_heap_new w _) ((Below.refl _ _).alloc (Nat.le_refl _) _)
  have r3 : HasRow (w.heap.size + 1) #[b0, b1, b2, b3] ((w.alloc (.cells #[a0, a1, a2, a3] 24)).alloc (.cells #[b0, b1, b2, b3] 24)) := by
    have := World.alloc_heap_new (w.alloc (.cells #[a0, a1, a2, a3] 24)) (.cells #[b0, b1, b2, b3] 24)
    rw [World.size_alloc] at this; exact this
  have wa := sizeT_whole ta 300
  have wb := sizeT_whole tb 300
  go_enter Tryz.func3, Tryz.ntmps3
  go_wp2_with fail
  revert hBx r2 r3
  generalize ((w.alloc (.cells #[a0, a1, a2, a3] 24)).alloc (.cells #[b0, b1, b2, b3] 24)) = W0
  intro hBx r2 r3
  have hA := (hA0.below hBx).mono hBx.size
  have hB := (hB0.below hBx).mono hBx.size
  have HS := Lib.hid (sizeTerm_any ta a0 a1 a2 a3 300 W0 hA (by omega) (by omega))
  refine HS.out.mono ?_
  clear HS
  rintro e W1 ⟨rfl, hb1⟩
  obtain ⟨sa, hsa⟩ : ∃ s, sizeT ta 300 = s := ⟨_, rfl⟩
  obtain ⟨sb, hsb⟩ : ∃ s, sizeT tb 300 = s := ⟨_, rfl⟩
  rw [hsa] at wa ⊢
  rw [hsb] at wb
  have q2 := r2.grow hb1
  have q3 := r3.grow hb1
  have hB1 := hBx.trans (hb1.mono hBx.size)
  have iB := (hB.below hb1).mono hb1.size
  have iA := (hA.below hb1).mono hb1.size
  have HS := Lib.hid (sizeTerm_any tb b0 b1 b2 b3 300 W1 iB (by omega) (by omega))
  rw [hsb] at HS
  clear hsa hsb r2 r3 hb1 hBx hA hB hA0 hB0
  have awake : ∀ w1, Below w.heap.size w w1 → Calls Tryz.prog 15 #[] w1 fun e w' => e = .returned (.bool true) ∧ Below w1.heap.size w1 w' := fun w1 h =>
    awake_any w1 (Nat.lt_of_lt_of_le hgl0 h.size) (tab_below h hgl0 htab0)
  have HAW := Lib.hid awake
  clear awake htab0
  have x0 := cells_at q2 0 _ rfl
  have x1 := cells_at q2 1 _ rfl
  have x2 := cells_at q2 2 _ rfl
  have x3 := cells_at q2 3 _ rfl
  have y0 := cells_at q3 0 _ rfl
  have y1 := cells_at q3 1 _ rfl
  have y2 := cells_at q3 2 _ rfl
  have y3 := cells_at q3 3 _ rfl
  by_cases ha : 300 < sa
  · clear HS wa wb q2 q3 iA iB
    go_wp2_with (go_at_call 15; refine (HAW.out _ hB1).mono ?_; rintro e w2 ⟨rfl, hb2⟩)
    have hBf := hB1.trans (hb2.mono hB1.size)
    go_ret
    exact ⟨rfl, hBf⟩
  go_wp2_with fail
  refine HS.out.mono ?_
  clear HS x0 x1 x2 x3 y0 y1 y2 y3
  rintro e W2 ⟨rfl, hb2⟩
  have r2 := q2.grow hb2
  have r3 := q3.grow hb2
  have hB2 := hB1.trans (hb2.mono hB1.size)
  have hB := (iB.below hb2).mono hb2.size
  have hA := (iA.below hb2).mono hb2.size
  clear q2 q3 hb2 hB1 iA iB
  by_cases hb : 300 < sb
  · clear wa wb r2 r3 hA hB
    go_wp2_with (go_at_call 15; refine (HAW.out _ hB2).mono ?_; rintro e w2 ⟨rfl, hb2⟩)
    have hBf := hB2.trans (hb2.mono hB2.size)
    go_ret
    exact ⟨rfl, hBf⟩
  have hca : ta.count ≤ 1000000 := by have := wa (by omega); omega
  have hcb : tb.count ≤ 1000000 := by have := wb (by omega); omega
  have x0 := cells_at r2 0 _ rfl
  have x1 := cells_at r2 1 _ rfl
  have x2 := cells_at r2 2 _ rfl
  have x3 := cells_at r2 3 _ rfl
  have y0 := cells_at r3 0 _ rfl
  have y1 := cells_at r3 1 _ rfl
  have y2 := cells_at r3 2 _ rfl
  have y3 := cells_at r3 3 _ rfl
  have HT1 := Lib.hid (two_any ta tb _ _ _ _ _ _ _ _ W2 hA hB hca hcb)
  clear wa wb
  go_wp2_with fail
  refine HT1.out.mono ?_
  clear HT1 x0 x1 x2 x3 y0 y1 y2 y3
  rintro e W3 ⟨rfl, hb3⟩
  have q2 := r2.grow hb3
  have hB3 := hB2.trans (hb3.mono hB2.size)
  have HT2 := Lib.hid (two_any ta ta _ _ _ _ _ _ _ _ W3 ((hA.below hb3).mono hb3.size) ((hA.below hb3).mono hb3.size) hca hca)
  have x0 := cells_at q2 0 _ rfl
  have x1 := cells_at q2 1 _ rfl
  have x2 := cells_at q2 2 _ rfl
  have x3 := cells_at q2 3 _ rfl
  clear q2 r2 r3 hb3 hB2 hA hB
  go_wp2_with fail
  refine HT2.out.mono ?_
  clear HT2 x0 x1 x2 x3
  rintro e W4 ⟨rfl, hb4⟩
  have hB4 := hB3.trans (hb4.mono hB3.size)
  clear hb4
  go_wp2_with (go_at_call 15; refine (HAW.out _ hB4).mono ?_; rintro e w2 ⟨rfl, hb2⟩)
  have hBf := hB4.trans (hb2.mono hB4.size)
  go_ret
  exact ⟨rfl, hBf⟩
end Go.Proofs.YtkjoimedalhnoaaGreatDoor
