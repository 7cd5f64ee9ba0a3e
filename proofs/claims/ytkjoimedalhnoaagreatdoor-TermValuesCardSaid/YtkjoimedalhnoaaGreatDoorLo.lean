/- The law of the order: its walk. -/
import Derived.Test.YtkjoimedalhnoaaGreatDoorAw
import Derived.Test.YtkjoimedalhnoaaGreatDoorEq
import Derived.Test.YtkjoimedalhnoaaGreatDoorOr
import Derived.Test.YtkjoimedalhnoaaGreatDoorSm
import Derived.IntWalk
namespace Go.Proofs.YtkjoimedalhnoaaGreatDoor
open Go.RowKit

theorem wanted_false {o : Oper} {y : Nat → Option Bool} {k : Nat} (hg : o.guard = some (k, false)) (hy : y k = some false) : Region.wanted o y = true := by
  unfold Region.wanted
  rw [hg]
  simp [hy]
/-- The slots, one by one. -/
theorem explode (a : Array Value) (n : Nat) (h : a.size = n) : a = ((List.range n).map (fun i => a.getD i undef)).toArray := by
  apply Array.ext
  · simp [h]
  · intro i h1 h2
    simp [Array.getD_eq_getD_getElem?, h1]
theorem sl_three {r : Nat} {w : World} {x0 x1 x2 x3 y0 y1 y2 y3 z0 z1 z2 z3 : Value} {s t u : Tm} (h : HasRow r #[x0, x1, x2, x3, y0, y1, y2, y3, z0, z1, z2, z3] w) (hx : IsTm w.heap.size w x0 x1 x2 x3 s) (hy : IsTm w.heap.size w y0 y1 y2 y3 t) (hz : IsTm w.heap.size w z0 z1 z2 z3 u) :
    SlV w (.slice (some ⟨r, 0, none⟩) 3 3) [s, t, u] :=
  ⟨_, _, rfl, by unfold maxLen; simp, fun _ => ⟨r, 0, rfl, h.lt, tms_cons h rfl rfl rfl rfl hx (tms_cons h rfl rfl rfl rfl hy (tms_cons h rfl rfl rfl rfl hz tms_nil))⟩⟩
theorem small_sl (us : List Tm) (v : Value) (w : World) (hv : SlV w v us) : Calls Tryz.prog 21 #[v] w fun e w' => e = .returned (.bool (decide (sizeL us 0 300 ≤ 300))) ∧ Below w.heap.size w w' := by
  obtain ⟨a, cap, rfl, hl, hr⟩ := hv
  exact small_any us a cap w hl hr

/-- A contract that holds in every world that has only grown. -/
def Ever (B : Nat) (w : World) (f : FuncId) (args : Array Value) (v : Value) : Prop := ∀ w', Below B w w' → Calls Tryz.prog f args w' fun e w2 => e = .returned v ∧ Below w'.heap.size w' w2

theorem compare_ever {w : World} {a0 a1 a2 a3 b0 b1 b2 b3 : Value} {ta tb : Tm} (hA : IsTm w.heap.size w a0 a1 a2 a3 ta) (hB : IsTm w.heap.size w b0 b1 b2 b3 tb) :
    Ever w.heap.size w 22 #[.agg #[a0, a1, a2, a3], .agg #[b0, b1, b2, b3]] (.int .i64 (Tm.cmp ta tb)) := fun w' h => compare_any w.heap.size ta tb _ _ _ _ _ _ _ _ w' (hA.below h) (hB.below h) h.size
theorem equal_ever {w : World} {a0 a1 a2 a3 b0 b1 b2 b3 : Value} {ta tb : Tm} (hA : IsTm w.heap.size w a0 a1 a2 a3 ta) (hB : IsTm w.heap.size w b0 b1 b2 b3 tb) :
    Ever w.heap.size w 24 #[.agg #[a0, a1, a2, a3], .agg #[b0, b1, b2, b3]] (.bool (Tm.cmp ta tb == 0)) := fun w' h => equal_any ta tb _ _ _ _ _ _ _ _ w' ((hA.below h).mono h.size) ((hB.below h).mono h.size)
theorem same_ever {w : World} {a0 a1 a2 a3 b0 b1 b2 b3 : Value} {ta tb : Tm} (hA : IsTm w.heap.size w a0 a1 a2 a3 ta) (hB : IsTm w.heap.size w b0 b1 b2 b3 tb) :
    Ever w.heap.size w 25 #[.agg #[a0, a1, a2, a3], .agg #[b0, b1, b2, b3]] (.bool (Tm.cmp ta tb == 0)) := by
  have e : sameB ta tb = (Tm.cmp ta tb == 0) := by
    rw [Bool.eq_iff_iff, sameB_iff, beq_iff_eq, cmp_zero ta tb (good_of hA) (good_of hB)]
  rw [← e]
  exact fun w' h => sameTerm_any ta tb _ _ _ _ _ _ _ _ w' ((hA.below h).mono h.size) ((hB.below h).mono h.size)

def loDescs5 (a0 a1 a2 a3 b0 b1 b2 b3 c0 c1 c2 c3 : Value) (x y z : Int) : List Desc := [
  .val (.agg #[a0, a1, a2, a3]),
  .val (.agg #[b0, b1, b2, b3]),
  .val (.int .i64 x),
  .val (.agg #[b0, b1, b2, b3]),
  .val (.agg #[c0, c1, c2, c3]),
  .val (.int .i64 y),
  .val (.agg #[a0, a1, a2, a3]),
  .val (.agg #[c0, c1, c2, c3]),
  .val (.int .i64 z),
  .val (.int .i64 x),
  .val (.int .i64 y),
  .val (.int .i64 z)]
def loDescs6 (a0 a1 a2 a3 b0 b1 b2 b3 : Value) (x : Int) : List Desc := [
  .val (.int .i64 x),
  .val (.int .i64 x),
  .val (.int .i64 x),
  .val (.bool false),
  .val (.bool false),
  .val (.agg #[b0, b1, b2, b3]),
  .val (.agg #[a0, a1, a2, a3]),
  .val (.int .i64 (-x)),
  .val (.int .i64 x),
  .val (.int .i64 (-x)),
  .val (.bool false),
  .val (.bool false),
  .val (.bool false),
  .val (.agg #[a0, a1, a2, a3]),
  .val (.agg #[a0, a1, a2, a3]),
  .val (.int .i64 0),
  .val (.bool false),
  .val (.bool false),
  .val (.bool false),
  .val (.int .i64 x),
  .val (.bool (x == 0)),
  .val (.agg #[a0, a1, a2, a3]),
  .val (.agg #[b0, b1, b2, b3]),
  .val (.bool (x == 0)),
  .val (.bool false),
  .val (.bool false),
  .val (.bool false),
  .val (.agg #[a0, a1, a2, a3]),
  .val (.agg #[b0, b1, b2, b3]),
  .val (.bool (x == 0)),
  .val (.agg #[a0, a1, a2, a3]),
  .val (.agg #[b0, b1, b2, b3]),
  .val (.bool (x == 0)),
  .val (.bool false),
  .val (.bool false)]

set_option maxRecDepth 100000 in
set_option maxHeartbeats 20000000 in
theorem order_any (ta tb tc : Tm) (a0 a1 a2 a3 b0 b1 b2 b3 c0 c1 c2 c3 : Value) (w : World) (hA0 : IsTm w.heap.size w a0 a1 a2 a3 ta) (hB0 : IsTm w.heap.size w b0 b1 b2 b3 tb) (hC0 : IsTm w.heap.size w c0 c1 c2 c3 tc)
    (hgl0 : 2 < w.heap.size) (htab0 : Lib.TabIs Tryz.prog w "internal/strconv.uint64pow10" .u64 Lib.pow10Tab) :
    Calls Tryz.prog 5 #[.agg #[a0, a1, a2, a3], .agg #[b0, b1, b2, b3], .agg #[c0, c1, c2, c3]] w fun e w' => e = .returned (.bool true) ∧ Below w.heap.size w w' := by
  have ga := good_of hA0
  have gb := good_of hB0
  have gc := good_of hC0
  -- the boxes
  have hBx : Below w.heap.size w (((w.alloc (.cells #[a0, a1, a2, a3] 24)).alloc (.cells #[b0, b1, b2, b3] 24)).alloc (.cells #[c0, c1, c2, c3] 24)) :=
    (((Below.refl _ w).alloc (Nat.le_refl _) _).alloc (by simp) _).alloc (by simp; omega) _
  have r3 : HasRow w.heap.size #[a0, a1, a2, a3] (((w.alloc (.cells #[a0, a1, a2, a3] 24)).alloc (.cells #[b0, b1, b2, b3] 24)).alloc (.cells #[c0, c1, c2, c3] 24)) :=
    HasRow.grow (World.alloc_heap_new w _) (((Below.refl _ _).alloc (Nat.le_refl _) _).alloc (by simp) _)
  have r4 : HasRow (w.heap.size + 1) #[b0, b1, b2, b3] (((w.alloc (.cells #[a0, a1, a2, a3] 24)).alloc (.cells #[b0, b1, b2, b3] 24)).alloc (.cells #[c0, c1, c2, c3] 24)) := by
    have h : HasRow (w.heap.size + 1) #[b0, b1, b2, b3] ((w.alloc (.cells #[a0, a1, a2, a3] 24)).alloc (.cells #[b0, b1, b2, b3] 24)) := by
      have := World.alloc_heap_new (w.alloc (.cells #[a0, a1, a2, a3] 24)) (.cells #[b0, b1, b2, b3] 24)
      rw [World.size_alloc] at this; exact this
    exact h.grow ((Below.refl _ _).alloc (Nat.le_refl _) _)
  have r5 : HasRow (w.heap.size + 1 + 1) #[c0, c1, c2, c3] (((w.alloc (.cells #[a0, a1, a2, a3] 24)).alloc (.cells #[b0, b1, b2, b3] 24)).alloc (.cells #[c0, c1, c2, c3] 24)) := by
    have := World.alloc_heap_new ((w.alloc (.cells #[a0, a1, a2, a3] 24)).alloc (.cells #[b0, b1, b2, b3] 24)) (.cells #[c0, c1, c2, c3] 24)
    rw [World.size_alloc, World.size_alloc] at this; exact this
  go_enter Tryz.func5, Tryz.ntmps5
  go_wp2_with fail
  revert hBx r3 r4 r5
  generalize (((w.alloc (.cells #[a0, a1, a2, a3] 24)).alloc (.cells #[b0, b1, b2, b3] 24)).alloc (.cells #[c0, c1, c2, c3] 24)) = W0
  intro hBx r3 r4 r5
  generalize w.heap.size + 1 + 1 = n5 at r5 ⊢
  generalize hn4 : w.heap.size + 1 = n4 at r4 ⊢
  have HAW := Lib.hid (awake_any W0 (Nat.lt_of_lt_of_le hgl0 hBx.size) (tab_below hBx hgl0 htab0))
  clear htab0
  refine HAW.out.mono ?_
  clear HAW
  rintro e W1 ⟨rfl, hb1⟩
  have q3 := r3.grow hb1
  have q4 := r4.grow hb1
  have q5 := r5.grow hb1
  have hB1 := hBx.trans (hb1.mono hBx.size)
  clear r3 r4 r5 hb1 hBx
  have x0 := cells_at q3 0 _ rfl
  have x1 := cells_at q3 1 _ rfl
  have x2 := cells_at q3 2 _ rfl
  have x3 := cells_at q3 3 _ rfl
  have y0 := cells_at q4 0 _ rfl
  have y1 := cells_at q4 1 _ rfl
  have y2 := cells_at q4 2 _ rfl
  have y3 := cells_at q4 3 _ rfl
  have z0 := cells_at q5 0 _ rfl
  have z1 := cells_at q5 1 _ rfl
  have z2 := cells_at q5 2 _ rfl
  have z3 := cells_at q5 3 _ rfl
  go_wp2_with fail
  have hAl : Below W1.heap.size W1 (W1.alloc (.cells #[a0, a1, a2, a3, b0, b1, b2, b3, c0, c1, c2, c3] 24)) := (Below.refl _ _).alloc (Nat.le_refl _) _
  have hBl := hB1.trans (hAl.mono hB1.size)
  have hS := small_sl [ta, tb, tc] _ _ (sl_three (World.alloc_heap_new W1 _) ((hA0.below hBl).mono hBl.size) ((hB0.below hBl).mono hBl.size) ((hC0.below hBl).mono hBl.size))
  have q3 := q3.grow hAl
  have q4 := q4.grow hAl
  have q5 := q5.grow hAl
  obtain ⟨sm, hsm⟩ : ∃ b, decide (sizeL [ta, tb, tc] 0 300 ≤ 300) = b := ⟨_, rfl⟩
  rw [hsm] at hS
  clear hsm hAl x0 x1 x2 x3 y0 y1 y2 y3 z0 z1 z2 z3
  have HS := Lib.hid hS
  clear hS
  cases sm
  · refine HS.out.mono ?_
    clear HS
    rintro e W2 ⟨rfl, hb2⟩
    have hBf := hBl.trans (hb2.mono hBl.size)
    go_wp2_with fail
    go_ret
    exact ⟨rfl, hBf⟩
  refine HS.out.mono ?_
  clear HS
  rintro e W2 ⟨rfl, hb2⟩
  have r3 := q3.grow hb2
  have r4 := q4.grow hb2
  have r5 := q5.grow hb2
  have hB2 := hBl.trans (hb2.mono hBl.size)
  have hA := (hA0.below hB2).mono hB2.size
  have hB := (hB0.below hB2).mono hB2.size
  have hC := (hC0.below hB2).mono hB2.size
  clear q3 q4 q5 hb2 hBl hB1
  go_wp2_with fail
  obtain ⟨x, hxe⟩ : ∃ x, Tm.cmp ta tb = x := ⟨_, rfl⟩
  obtain ⟨y, hye⟩ : ∃ y, Tm.cmp tb tc = y := ⟨_, rfl⟩
  obtain ⟨z, hze⟩ : ∃ z, Tm.cmp ta tc = z := ⟨_, rfl⟩
  have hx := compare_ever hA hB
  have hy := compare_ever hB hC
  have hz := compare_ever hA hC
  rw [hxe] at hx
  rw [hye] at hy
  rw [hze] at hz
  have Hx := Lib.hid hx
  have Hy := Lib.hid hy
  have Hz := Lib.hid hz
  have hsx : Sg x := hxe ▸ cmp_sg ta tb
  have hsy : Sg y := hye ▸ cmp_sg tb tc
  have hsz : Sg z := hze ▸ cmp_sg ta tc
  have htri := cmp_tri ta tb tc ga gb gc
  have hneg := cmp_neg ta tb ga gb
  have hself := (cmp_zero ta ta ga ga).2 rfl
  rw [hxe, hye, hze] at htri
  rw [hxe] at hneg
  have HSX := Lib.hid hsx
  have HSY := Lib.hid hsy
  have HSZ := Lib.hid hsz
  have HT := Lib.hid htri
  have HNG := Lib.hid hneg
  have HSF := Lib.hid hself
  have HXE := Lib.hid hxe
  clear hx hy hz hxe hye hze hsx hsy hsz htri hneg hself ga gb gc
  refine wp_region_grow (by kernel_rfl) (FD (loDescs5 a0 a1 a2 a3 b0 b1 b2 b3 c0 c1 c2 c3 x y z)) (FD_grow _) (by kernel_rfl) (steps_all ?_) ?_
  · refine ⟨?_, ?_, ?_, ?_, ?_, ?_, ?_, ?_, ?_, ?_, ?_, ?_, trivial⟩
    · intro a wx hb hd hs ho hp
      refine ⟨rfl, ?_⟩
      have h3 : a.tmps.getD 3 undef = _ := (ho 3 (by kernel_rfl)).trans rfl
      have hx := HasRow.grow r3 hb
      have x0 := cells_at hx 0 _ rfl
      have x1 := cells_at hx 1 _ rfl
      have x2 := cells_at hx 2 _ rfl
      have x3 := cells_at hx 3 _ rfl
      unfold Oper.wp
      go_simp
      exact Stepped.at rfl hd (Below.refl _ _) (FD_mk (.val (.agg #[a0, a1, a2, a3])) rfl rfl)
    · intro a wx hb hd hs ho hp
      refine ⟨rfl, ?_⟩
      have h4 : a.tmps.getD 4 undef = _ := (ho 4 (by kernel_rfl)).trans rfl
      have hx := HasRow.grow r4 hb
      have x0 := cells_at hx 0 _ rfl
      have x1 := cells_at hx 1 _ rfl
      have x2 := cells_at hx 2 _ rfl
      have x3 := cells_at hx 3 _ rfl
      unfold Oper.wp
      go_simp
      exact Stepped.at rfl hd (Below.refl _ _) (FD_mk (.val (.agg #[b0, b1, b2, b3])) rfl rfl)
    · intro a wx hb hd hs ho hp
      refine ⟨rfl, ?_⟩
      have h18 : a.tmps.getD 18 undef = .agg #[a0, a1, a2, a3] := val_at hp 0 18 (by kernel_rfl) rfl
      have h19 : a.tmps.getD 19 undef = .agg #[b0, b1, b2, b3] := val_at hp 1 19 (by kernel_rfl) rfl
      unfold Oper.wp
      go_simp
      refine ((Hx.out _ hb)).mono ?_
      rintro e w2 ⟨rfl, hb2⟩
      exact Stepped.at rfl hd hb2 (FD_mk (.val (.int .i64 x)) rfl rfl)
    · intro a wx hb hd hs ho hp
      refine ⟨rfl, ?_⟩
      have h4 : a.tmps.getD 4 undef = _ := (ho 4 (by kernel_rfl)).trans rfl
      have hx := HasRow.grow r4 hb
      have x0 := cells_at hx 0 _ rfl
      have x1 := cells_at hx 1 _ rfl
      have x2 := cells_at hx 2 _ rfl
      have x3 := cells_at hx 3 _ rfl
      unfold Oper.wp
      go_simp
      exact Stepped.at rfl hd (Below.refl _ _) (FD_mk (.val (.agg #[b0, b1, b2, b3])) rfl rfl)
    · intro a wx hb hd hs ho hp
      refine ⟨rfl, ?_⟩
      have h5 : a.tmps.getD 5 undef = _ := (ho 5 (by kernel_rfl)).trans rfl
      have hx := HasRow.grow r5 hb
      have x0 := cells_at hx 0 _ rfl
      have x1 := cells_at hx 1 _ rfl
      have x2 := cells_at hx 2 _ rfl
      have x3 := cells_at hx 3 _ rfl
      unfold Oper.wp
      go_simp
      exact Stepped.at rfl hd (Below.refl _ _) (FD_mk (.val (.agg #[c0, c1, c2, c3])) rfl rfl)
    · intro a wx hb hd hs ho hp
      refine ⟨rfl, ?_⟩
      have h21 : a.tmps.getD 21 undef = .agg #[b0, b1, b2, b3] := val_at hp 3 21 (by kernel_rfl) rfl
      have h22 : a.tmps.getD 22 undef = .agg #[c0, c1, c2, c3] := val_at hp 4 22 (by kernel_rfl) rfl
      unfold Oper.wp
      go_simp
      refine ((Hy.out _ hb)).mono ?_
      rintro e w2 ⟨rfl, hb2⟩
      exact Stepped.at rfl hd hb2 (FD_mk (.val (.int .i64 y)) rfl rfl)
    · intro a wx hb hd hs ho hp
      refine ⟨rfl, ?_⟩
      have h3 : a.tmps.getD 3 undef = _ := (ho 3 (by kernel_rfl)).trans rfl
      have hx := HasRow.grow r3 hb
      have x0 := cells_at hx 0 _ rfl
      have x1 := cells_at hx 1 _ rfl
      have x2 := cells_at hx 2 _ rfl
      have x3 := cells_at hx 3 _ rfl
      unfold Oper.wp
      go_simp
      exact Stepped.at rfl hd (Below.refl _ _) (FD_mk (.val (.agg #[a0, a1, a2, a3])) rfl rfl)
    · intro a wx hb hd hs ho hp
      refine ⟨rfl, ?_⟩
      have h5 : a.tmps.getD 5 undef = _ := (ho 5 (by kernel_rfl)).trans rfl
      have hx := HasRow.grow r5 hb
      have x0 := cells_at hx 0 _ rfl
      have x1 := cells_at hx 1 _ rfl
      have x2 := cells_at hx 2 _ rfl
      have x3 := cells_at hx 3 _ rfl
      unfold Oper.wp
      go_simp
      exact Stepped.at rfl hd (Below.refl _ _) (FD_mk (.val (.agg #[c0, c1, c2, c3])) rfl rfl)
    · intro a wx hb hd hs ho hp
      refine ⟨rfl, ?_⟩
      have h24 : a.tmps.getD 24 undef = .agg #[a0, a1, a2, a3] := val_at hp 6 24 (by kernel_rfl) rfl
      have h25 : a.tmps.getD 25 undef = .agg #[c0, c1, c2, c3] := val_at hp 7 25 (by kernel_rfl) rfl
      unfold Oper.wp
      go_simp
      refine ((Hz.out _ hb)).mono ?_
      rintro e w2 ⟨rfl, hb2⟩
      exact Stepped.at rfl hd hb2 (FD_mk (.val (.int .i64 z)) rfl rfl)
    · intro a wx hb hd hs ho hp
      refine ⟨rfl, ?_⟩
      have h20 : a.tmps.getD 20 undef = .int .i64 x := val_at hp 2 20 (by kernel_rfl) rfl
      unfold Oper.wp
      go_simp
      exact Stepped.at rfl hd (Below.refl _ _) (FD_mk (.val (.int .i64 x)) rfl (by first | rfl | simp))
    · intro a wx hb hd hs ho hp
      refine ⟨rfl, ?_⟩
      have h23 : a.tmps.getD 23 undef = .int .i64 y := val_at hp 5 23 (by kernel_rfl) rfl
      unfold Oper.wp
      go_simp
      exact Stepped.at rfl hd (Below.refl _ _) (FD_mk (.val (.int .i64 y)) rfl (by first | rfl | simp))
    · intro a wx hb hd hs ho hp
      refine ⟨rfl, ?_⟩
      have h26 : a.tmps.getD 26 undef = .int .i64 z := val_at hp 8 26 (by kernel_rfl) rfl
      unfold Oper.wp
      go_simp
      exact Stepped.at rfl hd (Below.refl _ _) (FD_mk (.val (.int .i64 z)) rfl (by first | rfl | simp))
  intro a W3 hJ
  have hb3 := hJ.below
  have o7 : a.tmps.getD 7 undef = .int .i64 x := FD_at (.val (.int .i64 x)) rfl (hJ.at_end 9 7 (by kernel_rfl))
  have o8 : a.tmps.getD 8 undef = .int .i64 y := FD_at (.val (.int .i64 y)) rfl (hJ.at_end 10 8 (by kernel_rfl))
  have o9 : a.tmps.getD 9 undef = .int .i64 z := FD_at (.val (.int .i64 z)) rfl (hJ.at_end 11 9 (by kernel_rfl))
  have o3 : a.tmps.getD 3 undef = .pointer (some ⟨w.heap.size, 0, none⟩) := (hJ.outer 3 (by kernel_rfl)).trans rfl
  have o4 : a.tmps.getD 4 undef = .pointer (some ⟨n4, 0, none⟩) := (hJ.outer 4 (by kernel_rfl)).trans rfl
  have o5 : a.tmps.getD 5 undef = .pointer (some ⟨n5, 0, none⟩) := (hJ.outer 5 (by kernel_rfl)).trans rfl
  have hT : a.tmps.size = 85 := hJ.tmps.trans rfl
  have hD : a.defers = [] := hJ.defers
  have r3 := r3.grow hb3
  have r4 := r4.grow hb3
  have hB3 := hB2.trans (hb3.mono hB2.size)
  have hA := (hA.below hb3).mono hb3.size
  have hB := (hB.below hb3).mono hb3.size
  have hn := compare_ever hB hA
  have hz := compare_ever hA hA
  have he := equal_ever hA hB
  have hq := same_ever hA hB
  rw [HNG.out] at hn
  rw [HSF.out] at hz
  rw [HXE.out] at he hq
  have HN := Lib.hid hn
  have HZ := Lib.hid hz
  have HE := Lib.hid he
  have HQ := Lib.hid hq
  clear hn hz he hq hJ Hx Hy Hz hb3 hB2 hC r5
  obtain ⟨T0, D0⟩ := a
  simp only at o7 o8 o9 o3 o4 o5 hT hD
  subst hD
  rename_i K hK
  refine hK _ _ ?_
  clear hK
  go_wp2_with fail
  rename_i K2 hK2
  refine wp_region_grow (by kernel_rfl) (FD (loDescs6 a0 a1 a2 a3 b0 b1 b2 b3 x)) (FD_grow _) ?_ (steps_all ?_) ?_
  · show regionOk _ T0.size = true
    rw [hT]
    kernel_rfl
  · have hsx := HSX.out
    have hw : IntKind.i64.wrap (-x) = -x := IntWalk.i64_in _ (by unfold Sg at hsx; omega)
    clear hsx
    refine ⟨?_, ?_, ?_, ?_, ?_, ?_, ?_, ?_, ?_, ?_, ?_, ?_, ?_, ?_, ?_, ?_, ?_, ?_, ?_, ?_, ?_, ?_, ?_, ?_, ?_, ?_, ?_, ?_, ?_, ?_, ?_, ?_, ?_, ?_, ?_, trivial⟩
    · intro a wx hb hd hs ho hp
      refine ⟨rfl, ?_⟩
      have h7 : a.tmps.getD 7 undef = _ := (ho 7 (by kernel_rfl)).trans o7
      unfold Oper.wp
      go_simp
      exact Stepped.at rfl hd (Below.refl _ _) (FD_mk (.val (.int .i64 x)) rfl (by first | rfl | simp))
    · intro a wx hb hd hs ho hp
      refine ⟨rfl, ?_⟩
      have h7 : a.tmps.getD 7 undef = _ := (ho 7 (by kernel_rfl)).trans o7
      unfold Oper.wp
      go_simp
      exact Stepped.at rfl hd (Below.refl _ _) (FD_mk (.val (.int .i64 x)) rfl (by first | rfl | simp))
    · intro a wx hb hd hs ho hp
      refine ⟨rfl, ?_⟩
      have h28 : a.tmps.getD 28 undef = .int .i64 x := val_at hp 1 28 (by kernel_rfl) rfl
      unfold Oper.wp
      go_simp
      refine ((sign_sg x wx HSX.out)).mono ?_
      rintro e w2 ⟨rfl, rfl⟩
      exact Stepped.at rfl hd (Below.refl _ _) (FD_mk (.val (.int .i64 x)) rfl rfl)
    · intro a wx hb hd hs ho hp
      refine ⟨rfl, ?_⟩
      have h27 : a.tmps.getD 27 undef = .int .i64 x := val_at hp 0 27 (by kernel_rfl) rfl
      have h29 : a.tmps.getD 29 undef = .int .i64 x := val_at hp 2 29 (by kernel_rfl) rfl
      unfold Oper.wp
      go_simp
      exact Stepped.at rfl hd (Below.refl _ _) (FD_mk (.val (.bool false)) rfl (by first | rfl | simp))
    · intro a wx hb hd hs ho hp
      refine ⟨rfl, ?_⟩
      have h30 : a.tmps.getD 30 undef = .bool false := val_at hp 3 30 (by kernel_rfl) rfl
      unfold Oper.wp
      go_simp
      exact Stepped.at rfl hd (Below.refl _ _) (FD_mk (.val (.bool false)) rfl (by first | rfl | simp))
    · intro a wx hb hd hs ho hp
      refine ⟨wanted_false rfl (yielded_at (k := 4) (d := 31) (by kernel_rfl) (val_at hp 4 31 (by kernel_rfl) rfl)), ?_⟩
      have h4 : a.tmps.getD 4 undef = _ := (ho 4 (by kernel_rfl)).trans o4
      have hx := HasRow.grow r4 hb
      have x0 := cells_at hx 0 _ rfl
      have x1 := cells_at hx 1 _ rfl
      have x2 := cells_at hx 2 _ rfl
      have x3 := cells_at hx 3 _ rfl
      unfold Oper.wp
      go_simp
      exact Stepped.at rfl hd (Below.refl _ _) (FD_mk (.val (.agg #[b0, b1, b2, b3])) rfl rfl)
    · intro a wx hb hd hs ho hp
      refine ⟨wanted_false rfl (yielded_at (k := 4) (d := 31) (by kernel_rfl) (val_at hp 4 31 (by kernel_rfl) rfl)), ?_⟩
      have h3 : a.tmps.getD 3 undef = _ := (ho 3 (by kernel_rfl)).trans o3
      have hx := HasRow.grow r3 hb
      have x0 := cells_at hx 0 _ rfl
      have x1 := cells_at hx 1 _ rfl
      have x2 := cells_at hx 2 _ rfl
      have x3 := cells_at hx 3 _ rfl
      unfold Oper.wp
      go_simp
      exact Stepped.at rfl hd (Below.refl _ _) (FD_mk (.val (.agg #[a0, a1, a2, a3])) rfl rfl)
    · intro a wx hb hd hs ho hp
      refine ⟨wanted_false rfl (yielded_at (k := 4) (d := 31) (by kernel_rfl) (val_at hp 4 31 (by kernel_rfl) rfl)), ?_⟩
      have h32 : a.tmps.getD 32 undef = .agg #[b0, b1, b2, b3] := val_at hp 5 32 (by kernel_rfl) rfl
      have h33 : a.tmps.getD 33 undef = .agg #[a0, a1, a2, a3] := val_at hp 6 33 (by kernel_rfl) rfl
      unfold Oper.wp
      go_simp
      refine ((HN.out _ hb)).mono ?_
      rintro e w2 ⟨rfl, hb2⟩
      exact Stepped.at rfl hd hb2 (FD_mk (.val (.int .i64 (-x))) rfl rfl)
    · intro a wx hb hd hs ho hp
      refine ⟨wanted_false rfl (yielded_at (k := 4) (d := 31) (by kernel_rfl) (val_at hp 4 31 (by kernel_rfl) rfl)), ?_⟩
      have h7 : a.tmps.getD 7 undef = _ := (ho 7 (by kernel_rfl)).trans o7
      unfold Oper.wp
      go_simp
      exact Stepped.at rfl hd (Below.refl _ _) (FD_mk (.val (.int .i64 x)) rfl (by first | rfl | simp))
    · intro a wx hb hd hs ho hp
      refine ⟨wanted_false rfl (yielded_at (k := 4) (d := 31) (by kernel_rfl) (val_at hp 4 31 (by kernel_rfl) rfl)), ?_⟩
      have h35 : a.tmps.getD 35 undef = .int .i64 x := val_at hp 8 35 (by kernel_rfl) rfl
      unfold Oper.wp
      go_simp
      exact Stepped.at rfl hd (Below.refl _ _) (FD_mk (.val (.int .i64 (-x))) rfl (by first | rfl | simp))
    · intro a wx hb hd hs ho hp
      refine ⟨wanted_false rfl (yielded_at (k := 4) (d := 31) (by kernel_rfl) (val_at hp 4 31 (by kernel_rfl) rfl)), ?_⟩
      have h34 : a.tmps.getD 34 undef = .int .i64 (-x) := val_at hp 7 34 (by kernel_rfl) rfl
      have h36 : a.tmps.getD 36 undef = .int .i64 (-x) := val_at hp 9 36 (by kernel_rfl) rfl
      unfold Oper.wp
      go_simp
      exact Stepped.at rfl hd (Below.refl _ _) (FD_mk (.val (.bool false)) rfl (by first | rfl | simp))
    · intro a wx hb hd hs ho hp
      refine ⟨rfl, ?_⟩
      have h31 : a.tmps.getD 31 undef = .bool false := val_at hp 4 31 (by kernel_rfl) rfl
      have h37 : a.tmps.getD 37 undef = .bool false := val_at hp 10 37 (by kernel_rfl) rfl
      unfold Oper.wp
      go_simp
      exact Stepped.at rfl hd (Below.refl _ _) (FD_mk (.val (.bool false)) rfl (by first | rfl | simp))
    · intro a wx hb hd hs ho hp
      refine ⟨rfl, ?_⟩
      have h38 : a.tmps.getD 38 undef = .bool false := val_at hp 11 38 (by kernel_rfl) rfl
      unfold Oper.wp
      go_simp
      exact Stepped.at rfl hd (Below.refl _ _) (FD_mk (.val (.bool false)) rfl (by first | rfl | simp))
    · intro a wx hb hd hs ho hp
      refine ⟨wanted_false rfl (yielded_at (k := 12) (d := 39) (by kernel_rfl) (val_at hp 12 39 (by kernel_rfl) rfl)), ?_⟩
      have h3 : a.tmps.getD 3 undef = _ := (ho 3 (by kernel_rfl)).trans o3
      have hx := HasRow.grow r3 hb
      have x0 := cells_at hx 0 _ rfl
      have x1 := cells_at hx 1 _ rfl
      have x2 := cells_at hx 2 _ rfl
      have x3 := cells_at hx 3 _ rfl
      unfold Oper.wp
      go_simp
      exact Stepped.at rfl hd (Below.refl _ _) (FD_mk (.val (.agg #[a0, a1, a2, a3])) rfl rfl)
    · intro a wx hb hd hs ho hp
      refine ⟨wanted_false rfl (yielded_at (k := 12) (d := 39) (by kernel_rfl) (val_at hp 12 39 (by kernel_rfl) rfl)), ?_⟩
      have h3 : a.tmps.getD 3 undef = _ := (ho 3 (by kernel_rfl)).trans o3
      have hx := HasRow.grow r3 hb
      have x0 := cells_at hx 0 _ rfl
      have x1 := cells_at hx 1 _ rfl
      have x2 := cells_at hx 2 _ rfl
      have x3 := cells_at hx 3 _ rfl
      unfold Oper.wp
      go_simp
      exact Stepped.at rfl hd (Below.refl _ _) (FD_mk (.val (.agg #[a0, a1, a2, a3])) rfl rfl)
    · intro a wx hb hd hs ho hp
      refine ⟨wanted_false rfl (yielded_at (k := 12) (d := 39) (by kernel_rfl) (val_at hp 12 39 (by kernel_rfl) rfl)), ?_⟩
      have h40 : a.tmps.getD 40 undef = .agg #[a0, a1, a2, a3] := val_at hp 13 40 (by kernel_rfl) rfl
      have h41 : a.tmps.getD 41 undef = .agg #[a0, a1, a2, a3] := val_at hp 14 41 (by kernel_rfl) rfl
      unfold Oper.wp
      go_simp
      refine ((HZ.out _ hb)).mono ?_
      rintro e w2 ⟨rfl, hb2⟩
      exact Stepped.at rfl hd hb2 (FD_mk (.val (.int .i64 0)) rfl rfl)
    · intro a wx hb hd hs ho hp
      refine ⟨wanted_false rfl (yielded_at (k := 12) (d := 39) (by kernel_rfl) (val_at hp 12 39 (by kernel_rfl) rfl)), ?_⟩
      have h42 : a.tmps.getD 42 undef = .int .i64 0 := val_at hp 15 42 (by kernel_rfl) rfl
      unfold Oper.wp
      go_simp
      exact Stepped.at rfl hd (Below.refl _ _) (FD_mk (.val (.bool false)) rfl (by first | rfl | simp))
    · intro a wx hb hd hs ho hp
      refine ⟨rfl, ?_⟩
      have h39 : a.tmps.getD 39 undef = .bool false := val_at hp 12 39 (by kernel_rfl) rfl
      have h43 : a.tmps.getD 43 undef = .bool false := val_at hp 16 43 (by kernel_rfl) rfl
      unfold Oper.wp
      go_simp
      exact Stepped.at rfl hd (Below.refl _ _) (FD_mk (.val (.bool false)) rfl (by first | rfl | simp))
    · intro a wx hb hd hs ho hp
      refine ⟨rfl, ?_⟩
      have h44 : a.tmps.getD 44 undef = .bool false := val_at hp 17 44 (by kernel_rfl) rfl
      unfold Oper.wp
      go_simp
      exact Stepped.at rfl hd (Below.refl _ _) (FD_mk (.val (.bool false)) rfl (by first | rfl | simp))
    · intro a wx hb hd hs ho hp
      refine ⟨wanted_false rfl (yielded_at (k := 18) (d := 45) (by kernel_rfl) (val_at hp 18 45 (by kernel_rfl) rfl)), ?_⟩
      have h7 : a.tmps.getD 7 undef = _ := (ho 7 (by kernel_rfl)).trans o7
      unfold Oper.wp
      go_simp
      exact Stepped.at rfl hd (Below.refl _ _) (FD_mk (.val (.int .i64 x)) rfl (by first | rfl | simp))
    · intro a wx hb hd hs ho hp
      refine ⟨wanted_false rfl (yielded_at (k := 18) (d := 45) (by kernel_rfl) (val_at hp 18 45 (by kernel_rfl) rfl)), ?_⟩
      have h46 : a.tmps.getD 46 undef = .int .i64 x := val_at hp 19 46 (by kernel_rfl) rfl
      unfold Oper.wp
      go_simp
      exact Stepped.at rfl hd (Below.refl _ _) (FD_mk (.val (.bool (x == 0))) rfl (by first | rfl | simp))
    · intro a wx hb hd hs ho hp
      refine ⟨wanted_false rfl (yielded_at (k := 18) (d := 45) (by kernel_rfl) (val_at hp 18 45 (by kernel_rfl) rfl)), ?_⟩
      have h3 : a.tmps.getD 3 undef = _ := (ho 3 (by kernel_rfl)).trans o3
      have hx := HasRow.grow r3 hb
      have x0 := cells_at hx 0 _ rfl
      have x1 := cells_at hx 1 _ rfl
      have x2 := cells_at hx 2 _ rfl
      have x3 := cells_at hx 3 _ rfl
      unfold Oper.wp
      go_simp
      exact Stepped.at rfl hd (Below.refl _ _) (FD_mk (.val (.agg #[a0, a1, a2, a3])) rfl rfl)
    · intro a wx hb hd hs ho hp
      refine ⟨wanted_false rfl (yielded_at (k := 18) (d := 45) (by kernel_rfl) (val_at hp 18 45 (by kernel_rfl) rfl)), ?_⟩
      have h4 : a.tmps.getD 4 undef = _ := (ho 4 (by kernel_rfl)).trans o4
      have hx := HasRow.grow r4 hb
      have x0 := cells_at hx 0 _ rfl
      have x1 := cells_at hx 1 _ rfl
      have x2 := cells_at hx 2 _ rfl
      have x3 := cells_at hx 3 _ rfl
      unfold Oper.wp
      go_simp
      exact Stepped.at rfl hd (Below.refl _ _) (FD_mk (.val (.agg #[b0, b1, b2, b3])) rfl rfl)
    · intro a wx hb hd hs ho hp
      refine ⟨wanted_false rfl (yielded_at (k := 18) (d := 45) (by kernel_rfl) (val_at hp 18 45 (by kernel_rfl) rfl)), ?_⟩
      have h48 : a.tmps.getD 48 undef = .agg #[a0, a1, a2, a3] := val_at hp 21 48 (by kernel_rfl) rfl
      have h49 : a.tmps.getD 49 undef = .agg #[b0, b1, b2, b3] := val_at hp 22 49 (by kernel_rfl) rfl
      unfold Oper.wp
      go_simp
      refine ((HE.out _ hb)).mono ?_
      rintro e w2 ⟨rfl, hb2⟩
      exact Stepped.at rfl hd hb2 (FD_mk (.val (.bool (x == 0))) rfl rfl)
    · intro a wx hb hd hs ho hp
      refine ⟨wanted_false rfl (yielded_at (k := 18) (d := 45) (by kernel_rfl) (val_at hp 18 45 (by kernel_rfl) rfl)), ?_⟩
      have h47 : a.tmps.getD 47 undef = .bool (x == 0) := val_at hp 20 47 (by kernel_rfl) rfl
      have h50 : a.tmps.getD 50 undef = .bool (x == 0) := val_at hp 23 50 (by kernel_rfl) rfl
      unfold Oper.wp
      go_simp
      exact Stepped.at rfl hd (Below.refl _ _) (FD_mk (.val (.bool false)) rfl (by first | rfl | simp))
    · intro a wx hb hd hs ho hp
      refine ⟨rfl, ?_⟩
      have h45 : a.tmps.getD 45 undef = .bool false := val_at hp 18 45 (by kernel_rfl) rfl
      have h51 : a.tmps.getD 51 undef = .bool false := val_at hp 24 51 (by kernel_rfl) rfl
      unfold Oper.wp
      go_simp
      exact Stepped.at rfl hd (Below.refl _ _) (FD_mk (.val (.bool false)) rfl (by first | rfl | simp))
    · intro a wx hb hd hs ho hp
      refine ⟨rfl, ?_⟩
      have h52 : a.tmps.getD 52 undef = .bool false := val_at hp 25 52 (by kernel_rfl) rfl
      unfold Oper.wp
      go_simp
      exact Stepped.at rfl hd (Below.refl _ _) (FD_mk (.val (.bool false)) rfl (by first | rfl | simp))
    · intro a wx hb hd hs ho hp
      refine ⟨wanted_false rfl (yielded_at (k := 26) (d := 53) (by kernel_rfl) (val_at hp 26 53 (by kernel_rfl) rfl)), ?_⟩
      have h3 : a.tmps.getD 3 undef = _ := (ho 3 (by kernel_rfl)).trans o3
      have hx := HasRow.grow r3 hb
      have x0 := cells_at hx 0 _ rfl
      have x1 := cells_at hx 1 _ rfl
      have x2 := cells_at hx 2 _ rfl
      have x3 := cells_at hx 3 _ rfl
      unfold Oper.wp
      go_simp
      exact Stepped.at rfl hd (Below.refl _ _) (FD_mk (.val (.agg #[a0, a1, a2, a3])) rfl rfl)
    · intro a wx hb hd hs ho hp
      refine ⟨wanted_false rfl (yielded_at (k := 26) (d := 53) (by kernel_rfl) (val_at hp 26 53 (by kernel_rfl) rfl)), ?_⟩
      have h4 : a.tmps.getD 4 undef = _ := (ho 4 (by kernel_rfl)).trans o4
      have hx := HasRow.grow r4 hb
      have x0 := cells_at hx 0 _ rfl
      have x1 := cells_at hx 1 _ rfl
      have x2 := cells_at hx 2 _ rfl
      have x3 := cells_at hx 3 _ rfl
      unfold Oper.wp
      go_simp
      exact Stepped.at rfl hd (Below.refl _ _) (FD_mk (.val (.agg #[b0, b1, b2, b3])) rfl rfl)
    · intro a wx hb hd hs ho hp
      refine ⟨wanted_false rfl (yielded_at (k := 26) (d := 53) (by kernel_rfl) (val_at hp 26 53 (by kernel_rfl) rfl)), ?_⟩
      have h54 : a.tmps.getD 54 undef = .agg #[a0, a1, a2, a3] := val_at hp 27 54 (by kernel_rfl) rfl
      have h55 : a.tmps.getD 55 undef = .agg #[b0, b1, b2, b3] := val_at hp 28 55 (by kernel_rfl) rfl
      unfold Oper.wp
      go_simp
      refine ((HE.out _ hb)).mono ?_
      rintro e w2 ⟨rfl, hb2⟩
      exact Stepped.at rfl hd hb2 (FD_mk (.val (.bool (x == 0))) rfl rfl)
    · intro a wx hb hd hs ho hp
      refine ⟨wanted_false rfl (yielded_at (k := 26) (d := 53) (by kernel_rfl) (val_at hp 26 53 (by kernel_rfl) rfl)), ?_⟩
      have h3 : a.tmps.getD 3 undef = _ := (ho 3 (by kernel_rfl)).trans o3
      have hx := HasRow.grow r3 hb
      have x0 := cells_at hx 0 _ rfl
      have x1 := cells_at hx 1 _ rfl
      have x2 := cells_at hx 2 _ rfl
      have x3 := cells_at hx 3 _ rfl
      unfold Oper.wp
      go_simp
      exact Stepped.at rfl hd (Below.refl _ _) (FD_mk (.val (.agg #[a0, a1, a2, a3])) rfl rfl)
    · intro a wx hb hd hs ho hp
      refine ⟨wanted_false rfl (yielded_at (k := 26) (d := 53) (by kernel_rfl) (val_at hp 26 53 (by kernel_rfl) rfl)), ?_⟩
      have h4 : a.tmps.getD 4 undef = _ := (ho 4 (by kernel_rfl)).trans o4
      have hx := HasRow.grow r4 hb
      have x0 := cells_at hx 0 _ rfl
      have x1 := cells_at hx 1 _ rfl
      have x2 := cells_at hx 2 _ rfl
      have x3 := cells_at hx 3 _ rfl
      unfold Oper.wp
      go_simp
      exact Stepped.at rfl hd (Below.refl _ _) (FD_mk (.val (.agg #[b0, b1, b2, b3])) rfl rfl)
    · intro a wx hb hd hs ho hp
      refine ⟨wanted_false rfl (yielded_at (k := 26) (d := 53) (by kernel_rfl) (val_at hp 26 53 (by kernel_rfl) rfl)), ?_⟩
      have h57 : a.tmps.getD 57 undef = .agg #[a0, a1, a2, a3] := val_at hp 30 57 (by kernel_rfl) rfl
      have h58 : a.tmps.getD 58 undef = .agg #[b0, b1, b2, b3] := val_at hp 31 58 (by kernel_rfl) rfl
      unfold Oper.wp
      go_simp
      refine ((HQ.out _ hb)).mono ?_
      rintro e w2 ⟨rfl, hb2⟩
      exact Stepped.at rfl hd hb2 (FD_mk (.val (.bool (x == 0))) rfl rfl)
    · intro a wx hb hd hs ho hp
      refine ⟨wanted_false rfl (yielded_at (k := 26) (d := 53) (by kernel_rfl) (val_at hp 26 53 (by kernel_rfl) rfl)), ?_⟩
      have h56 : a.tmps.getD 56 undef = .bool (x == 0) := val_at hp 29 56 (by kernel_rfl) rfl
      have h59 : a.tmps.getD 59 undef = .bool (x == 0) := val_at hp 32 59 (by kernel_rfl) rfl
      unfold Oper.wp
      go_simp
      exact Stepped.at rfl hd (Below.refl _ _) (FD_mk (.val (.bool false)) rfl (by first | rfl | simp))
    · intro a wx hb hd hs ho hp
      refine ⟨rfl, ?_⟩
      have h53 : a.tmps.getD 53 undef = .bool false := val_at hp 26 53 (by kernel_rfl) rfl
      have h60 : a.tmps.getD 60 undef = .bool false := val_at hp 33 60 (by kernel_rfl) rfl
      unfold Oper.wp
      go_simp
      exact Stepped.at rfl hd (Below.refl _ _) (FD_mk (.val (.bool false)) rfl (by first | rfl | simp))
  intro a W4 hJ
  have hb4 := hJ.below
  have s61 : a.tmps.getD 61 undef = .bool false := FD_at (.val (.bool false)) rfl (hJ.at_end 34 61 (by kernel_rfl))
  have s7 : a.tmps.getD 7 undef = .int .i64 x := (hJ.outer 7 (by kernel_rfl)).trans o7
  have s8 : a.tmps.getD 8 undef = .int .i64 y := (hJ.outer 8 (by kernel_rfl)).trans o8
  have s9 : a.tmps.getD 9 undef = .int .i64 z := (hJ.outer 9 (by kernel_rfl)).trans o9
  have hT4 : a.tmps.size = 85 := hJ.tmps.trans hT
  have hD : a.defers = [] := hJ.defers
  have hBf := hB3.trans (hb4.mono hB3.size)
  have hsx := HSX.out
  have hsy := HSY.out
  have hsz := HSZ.out
  have htri := HT.out
  unfold Sg at hsx hsy hsz
  unfold Tri at htri
  clear hJ HN HZ HE HQ o3 o4 o5 o7 o8 o9 r3 r4 hA hB hb4 HSX HSY HSZ HT HNG HSF HXE hT
  obtain ⟨T1, D1⟩ := a
  simp only at s61 s7 s8 s9 hT4 hD
  subst hD
  have hE := explode T1 85 hT4
  obtain ⟨f, hf⟩ : ∃ f : Nat → Value, (fun i => T1.getD i undef) = f := ⟨_, rfl⟩
  rw [hf] at hE
  have f61 : f 61 = .bool false := by rw [← hf]; exact s61
  have f7 : f 7 = .int .i64 x := by rw [← hf]; exact s7
  have f8 : f 8 = .int .i64 y := by rw [← hf]; exact s8
  have f9 : f 9 = .int .i64 z := by rw [← hf]; exact s9
  clear s61 s7 s8 s9 hf hT4
  subst hE
  refine hK2 _ _ ?_
  clear hK2
  simp only [List.range, List.range.loop, List.map, f61, f7, f8, f9]
  clear f61 f7 f8 f9
  have HBF := Lib.hid hBf
  clear hBf
  rcases hsx with rfl | rfl | rfl <;> rcases hsy with rfl | rfl | rfl <;> rcases hsz with rfl | rfl | rfl
  all_goals first
    | (exfalso; revert htri; decide)
    | (clear htri; go_wp2_with fail; go_ret; exact ⟨rfl, HBF.out⟩)
end Go.Proofs.YtkjoimedalhnoaaGreatDoor
