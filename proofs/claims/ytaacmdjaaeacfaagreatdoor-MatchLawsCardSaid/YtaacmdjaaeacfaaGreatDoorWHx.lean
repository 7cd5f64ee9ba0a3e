/- Package match: Test. -/
import Derived.Test.YtaacmdjaaeacfaaGreatDoorWHw
namespace Go.Proofs.YtaacmdjaaeacfaaGreatDoor
open Go.RowKit Go.Shelf
attribute [local go_sem] Oper.semAt_some

theorem eql_nil (w : World) : (binOp .eql 87 .nilFunc .nilFunc).run Tryz.prog w = .ok (.bool true) w := by kernel_rfl
theorem eql_func (F : Nat) (w : World) : (binOp .eql 87 (.func (.func F) #[] #[]) .nilFunc).run Tryz.prog w = .ok (.bool false) w := by kernel_rfl
attribute [local go_sem] eql_nil eql_func
def testB (k : Nat) (c : Int) : Bool := if k = 1 then c == 0 else if k = 2 then c != 0 else if k = 3 then decide (c < 0) else if k = 4 then decide (c ≤ 0) else if k = 5 then decide (c > 0) else if k = 6 then decide (c ≥ 0) else false
theorem test1 (c : Int) (W : World) : Calls Tryz.prog 54 #[.int .i64 c] W fun e w' => e = .returned (.bool (testB 1 c)) ∧ W = w' := by
  obtain ⟨T, hT⟩ : ∃ T, testB 1 c = T := ⟨_, rfl⟩
  rw [hT]
  have HT := Lib.hid hT
  clear hT
  go_enter Tryz.func54, Tryz.ntmps54
  go_wp2
  go_ret
  exact ⟨by rw [← HT.out]; rfl, rfl⟩
theorem test2 (c : Int) (W : World) : Calls Tryz.prog 55 #[.int .i64 c] W fun e w' => e = .returned (.bool (testB 2 c)) ∧ W = w' := by
  obtain ⟨T, hT⟩ : ∃ T, testB 2 c = T := ⟨_, rfl⟩
  rw [hT]
  have HT := Lib.hid hT
  clear hT
  go_enter Tryz.func55, Tryz.ntmps55
  go_wp2
  go_ret
  exact ⟨by rw [← HT.out]; rfl, rfl⟩
theorem test3 (c : Int) (W : World) : Calls Tryz.prog 56 #[.int .i64 c] W fun e w' => e = .returned (.bool (testB 3 c)) ∧ W = w' := by
  obtain ⟨T, hT⟩ : ∃ T, testB 3 c = T := ⟨_, rfl⟩
  rw [hT]
  have HT := Lib.hid hT
  clear hT
  go_enter Tryz.func56, Tryz.ntmps56
  go_wp2
  go_ret
  exact ⟨by rw [← HT.out]; rfl, rfl⟩
theorem test4 (c : Int) (W : World) : Calls Tryz.prog 57 #[.int .i64 c] W fun e w' => e = .returned (.bool (testB 4 c)) ∧ W = w' := by
  obtain ⟨T, hT⟩ : ∃ T, testB 4 c = T := ⟨_, rfl⟩
  rw [hT]
  have HT := Lib.hid hT
  clear hT
  go_enter Tryz.func57, Tryz.ntmps57
  go_wp2
  go_ret
  exact ⟨by rw [← HT.out]; rfl, rfl⟩
theorem test5 (c : Int) (W : World) : Calls Tryz.prog 58 #[.int .i64 c] W fun e w' => e = .returned (.bool (testB 5 c)) ∧ W = w' := by
  obtain ⟨T, hT⟩ : ∃ T, testB 5 c = T := ⟨_, rfl⟩
  rw [hT]
  have HT := Lib.hid hT
  clear hT
  go_enter Tryz.func58, Tryz.ntmps58
  go_wp2
  go_ret
  exact ⟨by rw [← HT.out]; rfl, rfl⟩
theorem test6 (c : Int) (W : World) : Calls Tryz.prog 59 #[.int .i64 c] W fun e w' => e = .returned (.bool (testB 6 c)) ∧ W = w' := by
  obtain ⟨T, hT⟩ : ∃ T, testB 6 c = T := ⟨_, rfl⟩
  rw [hT]
  have HT := Lib.hid hT
  clear hT
  go_enter Tryz.func59, Tryz.ntmps59
  go_wp2
  go_ret
  exact ⟨by rw [← HT.out]; rfl, rfl⟩
def ds29_4 (k n7 _ _ F : Nat) (k2 n2 k3 n3 : Int) (s2 s3 : ByteArray) (a2 a3 : Option Addr) (l2 c2 l3 c3 : Nat) (CV : Int) (TB : Bool) : List Du := [.val (.int .u8 (k : Nat)), .val (.pointer (some ⟨n7, k, none⟩)), .val (.func (.func F) #[] #[]), .val (.agg #[.int .u8 k2, .int .i64 n2, .string s2, .slice a2 l2 c2]), .val (.agg #[.int .u8 k3, .int .i64 n3, .string s3, .slice a3 l3 c3]), .val (.int .i64 (CV)), .val (.bool (TB)), .val (.bool (TB))]
set_option maxRecDepth 100000 in
set_option maxHeartbeats 40000000 in
theorem mTest_any (k : Nat) (hk : k ≤ 255) (u v : Tm) (c0 c1 c2 c3 d0 d1 d2 d3 : Value) (w : World) (hu : IsTm w.heap.size w c0 c1 c2 c3 u) (hv : IsTm w.heap.size w d0 d1 d2 d3 v) :
    Calls Tryz.prog 29 #[.int .u8 (k : Nat), .agg #[c0, c1, c2, c3], .agg #[d0, d1, d2, d3]] w fun e w' => e = .returned (.bool (testB k (Tm.cmp u v))) ∧ Below w.heap.size w w' := by
  have hu0 := hu
  have hv0 := hv
  obtain ⟨CV, hCV⟩ : ∃ CV, Tm.cmp u v = CV := ⟨_, rfl⟩
  rw [hCV]
  have HCMP0 := Lib.hid (fun (W : World) (hW : Below w.heap.size w W) => show Calls Tryz.prog 53 #[.agg #[c0, c1, c2, c3], .agg #[d0, d1, d2, d3]] W fun e w2 => e = .returned (.int .i64 CV) ∧ Below W.heap.size W w2 from hCV ▸ compare_any W.heap.size _ _ _ _ _ _ _ _ _ _ W ((hu0.below hW).mono hW.size) ((hv0.below hW).mono hW.size) (Nat.le_refl _))
  obtain ⟨k2, n2, s2, us2⟩ := u
  obtain ⟨k3, n3, s3, us3⟩ := v
  simp only [IsTm] at hu hv
  obtain ⟨rfl, _, rfl, _, rfl, _, a2, c2, rfl, _, _⟩ := hu
  obtain ⟨rfl, _, rfl, _, rfl, _, a3, c3, rfl, _, _⟩ := hv
  obtain ⟨l2, hl2⟩ : ∃ l2, us2.length = l2 := ⟨_, rfl⟩
  obtain ⟨l3, hl3⟩ : ∃ l3, us3.length = l3 := ⟨_, rfl⟩
  rw [hl2, hl3] at HCMP0 ⊢
  clear hu0 hv0 hCV hl2 hl3
  go_enter Tryz.func29, Tryz.ntmps29
  refine wp_seq_k fun K hK => ?_
  have HK := Lib.hid hK
  clear hK
  go_wp2
  refine HK.out _ _ ?_
  clear HK
  refine wp_seq_k fun K hK => ?_
  have HK := Lib.hid hK
  clear hK
  go_wp2
  refine HK.out _ _ ?_
  clear HK
  obtain ⟨W7, hW7⟩ : ∃ W7, ((w.alloc (.cells #[.int .u8 k2, .int .i64 n2, .string s2, .slice a2 l2 c2] 24)).alloc (.cells #[.int .u8 k3, .int .i64 n3, .string s3, .slice a3 l3 c3] 24)).alloc (.cells #[.nilFunc, .func (.func 54) #[] #[], .func (.func 55) #[] #[], .func (.func 56) #[] #[], .func (.func 57) #[] #[], .func (.func 58) #[] #[], .func (.func 59) #[] #[]] 88) = W7 := ⟨_, rfl⟩
  have hb7 : Below w.heap.size w W7 := by rw [← hW7]; exact (((Below.refl _ w).alloc (Nat.le_refl _) _).alloc (by simp) _).alloc (by simp; omega) _
  have hq4 : W7.heap[w.heap.size]? = some (.cells #[.int .u8 k2, .int .i64 n2, .string s2, .slice a2 l2 c2] 24 (0, 0)) := by
    rw [← hW7, Below.heap_alloc _ _ _ (by simp; omega), Below.heap_alloc _ _ _ (by simp)]; exact World.alloc_heap_new _ _
  have hq5 : W7.heap[w.heap.size + 1]? = some (.cells #[.int .u8 k3, .int .i64 n3, .string s3, .slice a3 l3 c3] 24 (0, 0)) := by
    rw [← hW7, Below.heap_alloc _ _ _ (by simp)]
    have := World.alloc_heap_new (w.alloc (.cells #[.int .u8 k2, .int .i64 n2, .string s2, .slice a2 l2 c2] 24)) (.cells #[.int .u8 k3, .int .i64 n3, .string s3, .slice a3 l3 c3] 24)
    rwa [World.size_alloc] at this
  have hq7 : W7.heap[w.heap.size + 1 + 1]? = some (.cells #[.nilFunc, .func (.func 54) #[] #[], .func (.func 55) #[] #[], .func (.func 56) #[] #[], .func (.func 57) #[] #[], .func (.func 58) #[] #[], .func (.func 59) #[] #[]] 88 (0, 0)) := by
    rw [← hW7]
    have := World.alloc_heap_new ((w.alloc (.cells #[.int .u8 k2, .int .i64 n2, .string s2, .slice a2 l2 c2] 24)).alloc (.cells #[.int .u8 k3, .int .i64 n3, .string s3, .slice a3 l3 c3] 24)) (.cells #[.nilFunc, .func (.func 54) #[] #[], .func (.func 55) #[] #[], .func (.func 56) #[] #[], .func (.func 57) #[] #[], .func (.func 58) #[] #[], .func (.func 59) #[] #[]] 88)
    rwa [World.size_alloc, World.size_alloc] at this
  rw [hW7]
  have HB7 := Lib.hid hb7
  have HQ4 := Lib.hid hq4
  have HQ5 := Lib.hid hq5
  have HQ7 := Lib.hid hq7
  have HCMP := Lib.hid (fun (W : World) (hW : Below W7.heap.size W7 W) => HCMP0.out W (HB7.out.trans (hW.mono HB7.out.size)))
  obtain ⟨n4, hn4⟩ : ∃ n, w.heap.size = n := ⟨_, rfl⟩
  obtain ⟨n5, hn5⟩ : ∃ n, w.heap.size + 1 = n := ⟨_, rfl⟩
  obtain ⟨n7, hn7⟩ : ∃ n, w.heap.size + 1 + 1 = n := ⟨_, rfl⟩
  rw [hn7, hn5, hn4]
  rw [hn4] at HQ4
  rw [hn5] at HQ5
  rw [hn7] at HQ7
  have HBF : Hid (Below w.heap.size w W7) := HB7
  clear hW7 hb7 hq4 hq5 hq7 HCMP0 hn5 hn7
  have HN4 := Lib.hid hn4
  clear hn4
  have i0 : (0 : Int) ≤ (k : Int) := by omega
  have w1 : IntKind.i64.wrap (k : Int) = (k : Int) := IntWalk.i64_in _ (by omega)
  by_cases h7 : 7 ≤ k
  · have i1 : (7 : Int) ≤ (k : Int) := by omega
    have HT := Lib.hid (show testB k CV = false by unfold testB; simp [show k ≠ 1 by omega, show k ≠ 2 by omega, show k ≠ 3 by omega, show k ≠ 4 by omega, show k ≠ 5 by omega, show k ≠ 6 by omega])
    clear h7
    go_wp2
    go_ret
    exact ⟨by rw [HT.out]; rfl, HN4.out ▸ HBF.out⟩
  · by_cases h0 : k = 0
    · subst h0
      have x0 := cells_at HQ7.out 0 _ rfl
      go_wp2
      go_ret
      exact ⟨rfl, HN4.out ▸ HBF.out⟩
    · obtain ⟨F, hF, hFR, hFC⟩ : ∃ F : Nat, W7.cell? ⟨n7, k, none⟩ = some (.func (.func F) #[] #[]) ∧ (∀ (a : Array Value) (W : World), Sem.run Tryz.prog (callFunc F a) W = .ok (.enter F a) W) ∧ ∀ W, Calls Tryz.prog F #[.int .i64 CV] W fun e w' => e = .returned (.bool (testB k CV)) ∧ W = w' := by
        rcases (by omega : k = 1 ∨ k = 2 ∨ k = 3 ∨ k = 4 ∨ k = 5 ∨ k = 6) with rfl | rfl | rfl | rfl | rfl | rfl
        · exact ⟨_, cells_at HQ7.out 1 _ rfl, fun a W => by go_simp, test1 CV⟩
        · exact ⟨_, cells_at HQ7.out 2 _ rfl, fun a W => by go_simp, test2 CV⟩
        · exact ⟨_, cells_at HQ7.out 3 _ rfl, fun a W => by go_simp, test3 CV⟩
        · exact ⟨_, cells_at HQ7.out 4 _ rfl, fun a W => by go_simp, test4 CV⟩
        · exact ⟨_, cells_at HQ7.out 5 _ rfl, fun a W => by go_simp, test5 CV⟩
        · exact ⟨_, cells_at HQ7.out 6 _ rfl, fun a W => by go_simp, test6 CV⟩
      obtain ⟨TB, hTB⟩ : ∃ TB, testB k CV = TB := ⟨_, rfl⟩
      rw [hTB] at hFC ⊢
      have HF := Lib.hid hF
      have HFC := Lib.hid hFC
      have HFR := Lib.hid hFR
      clear hFR
      have i1 : (k : Int) < 7 := by omega
      have i2 : ¬ (7 : Int) ≤ (k : Int) := by omega
      clear h7 h0 hFC hTB
      go_wp2_with fail
      clear hF
      refine wp_region_grow_or (by kernel_rfl) (FU (ds29_4 k n7 n4 n5 F k2 n2 k3 n3 s2 s3 a2 a3 l2 c2 l3 c3 CV TB )) (FU_grow _) (by kernel_rfl) (steps_or ?_) ?_
      · refine ⟨?_, ?_, ?_, ?_, ?_, ?_, ?_, ?_, trivial⟩
        · intro ac wz hb hd hs ho hp
          refine Or.inl ⟨rfl, ?_⟩
          have h0 : ac.tmps.getD 0 undef = .int .u8 (k : Nat) := (ho 0 (by kernel_rfl)).trans rfl
          unfold Oper.wp
          go_simp
          exact Stepped.at rfl hd bR (FU_mk _ rfl (by show (_ : Value) = _; first | rfl | (first | rfl | simp) | (simp [*])))
        · intro ac wz hb hd hs ho hp
          refine Or.inl ⟨rfl, ?_⟩
          have h7 : ac.tmps.getD 7 undef = .pointer (some ⟨n7, 0, none⟩) := (ho 7 (by kernel_rfl)).trans rfl
          have h18 := uval_at hp 0 18 (by kernel_rfl) rfl
          unfold Oper.wp
          go_simp
          exact Stepped.at rfl hd bR (FU_mk _ rfl (by show (_ : Value) = _; first | rfl | (first | rfl | simp) | (simp [*])))
        · intro ac wz hb hd hs ho hp
          refine Or.inl ⟨rfl, ?_⟩
          have h19 := uval_at hp 1 19 (by kernel_rfl) rfl
          have x0 := (hb.cell (p := ⟨n7, k, none⟩) (block_lt HF.out)).trans HF.out
          unfold Oper.wp
          go_simp
          exact Stepped.at rfl hd bR (FU_mk _ rfl (by show (_ : Value) = _; first | rfl | (first | rfl | simp) | (simp [*])))
        · intro ac wz hb hd hs ho hp
          refine Or.inl ⟨rfl, ?_⟩
          have h4 : ac.tmps.getD 4 undef = .pointer (some ⟨n4, 0, none⟩) := (ho 4 (by kernel_rfl)).trans rfl
          have hx := (hb.block n4 (gL HQ4.out)).trans HQ4.out
          have x0 := cells_at hx 0 _ rfl
          have x1 := cells_at hx 1 _ rfl
          have x2 := cells_at hx 2 _ rfl
          have x3 := cells_at hx 3 _ rfl
          unfold Oper.wp
          go_simp
          exact Stepped.at rfl hd bR (FU_mk _ rfl (by show (_ : Value) = _; first | rfl | (first | rfl | simp) | (simp [*])))
        · intro ac wz hb hd hs ho hp
          refine Or.inl ⟨rfl, ?_⟩
          have h5 : ac.tmps.getD 5 undef = .pointer (some ⟨n5, 0, none⟩) := (ho 5 (by kernel_rfl)).trans rfl
          have hx := (hb.block n5 (gL HQ5.out)).trans HQ5.out
          have x0 := cells_at hx 0 _ rfl
          have x1 := cells_at hx 1 _ rfl
          have x2 := cells_at hx 2 _ rfl
          have x3 := cells_at hx 3 _ rfl
          unfold Oper.wp
          go_simp
          exact Stepped.at rfl hd bR (FU_mk _ rfl (by show (_ : Value) = _; first | rfl | (first | rfl | simp) | (simp [*])))
        · intro ac wz hb hd hs ho hp
          refine Or.inl ⟨rfl, ?_⟩
          have h21 := uval_at hp 3 21 (by kernel_rfl) rfl
          have h22 := uval_at hp 4 22 (by kernel_rfl) rfl
          unfold Oper.wp
          go_simp
          refine (HCMP.out _ hb).mono ?_
          rintro e2 w2 ⟨rfl, hb2⟩
          exact Stepped.at rfl hd (hb2) (FU_mk _ rfl (by show (_ : Value) = _; first | rfl | simp))
        · intro ac wz hb hd hs ho hp
          refine Or.inl ⟨rfl, ?_⟩
          have h20 := uval_at hp 2 20 (by kernel_rfl) rfl
          have h23 := uval_at hp 5 23 (by kernel_rfl) rfl
          have hFR := HFR.out
          unfold Oper.wp
          go_simp
          refine (HFC.out _).mono ?_
          rintro e2 w2 ⟨rfl, rfl⟩
          exact Stepped.at rfl hd bR (FU_mk _ rfl (by show (_ : Value) = _; first | rfl | simp))
        · intro ac wz hb hd hs ho hp
          refine Or.inl ⟨rfl, ?_⟩
          have h24 := uval_at hp 6 24 (by kernel_rfl) rfl
          unfold Oper.wp
          go_simp
          exact Stepped.at rfl hd bR (FU_mk _ rfl (by show (_ : Value) = _; first | rfl | (first | rfl | simp) | (simp [*])))
      intro ac W5 hJ
      have f6 : ac.tmps.getD 6 undef = .bool (TB) := FU_at (.val (.bool (TB))) rfl (hJ.at_end 7 6 (by kernel_rfl))
      obtain ⟨u18, f18⟩ := exV (ac.tmps.getD 18 undef)
      obtain ⟨u19, f19⟩ := exV (ac.tmps.getD 19 undef)
      obtain ⟨u20, f20⟩ := exV (ac.tmps.getD 20 undef)
      obtain ⟨u21, f21⟩ := exV (ac.tmps.getD 21 undef)
      obtain ⟨u22, f22⟩ := exV (ac.tmps.getD 22 undef)
      obtain ⟨u23, f23⟩ := exV (ac.tmps.getD 23 undef)
      obtain ⟨u24, f24⟩ := exV (ac.tmps.getD 24 undef)
      have bw := hJ.below
      obtain ⟨TT, DD⟩ := ac
      obtain rfl : DD = [] := hJ.defers
      have hE := slots_merge [false, false, false, false, false, false, true, false, false, false, false, false, false, false, false, false, false, false, true, true, true, true, true, true, true] 25 hJ.tmps rfl (by kernel_rfl) hJ.outer
      simp only [mergeFrom, Nat.zero_add, Nat.reduceAdd, f18, f19, f20, f21, f22, f23, f24, f6] at hE
      clear hJ f18 f19 f20 f21 f22 f23 f24 f6 
      subst hE
      have HBZ := Lib.hid (HBF.out.trans (bw.mono HBF.out.size))
      clear bw
      go_wp2
      go_ret
      exact ⟨rfl, HN4.out ▸ HBZ.out⟩
end Go.Proofs.YtaacmdjaaeacfaaGreatDoor
