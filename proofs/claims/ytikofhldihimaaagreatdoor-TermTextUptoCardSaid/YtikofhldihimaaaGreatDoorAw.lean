/- The examples of the chapter: the first term. -/
import Derived.Test.YtikofhldihimaaaGreatDoorAx
namespace Go.Proofs.YtikofhldihimaaaGreatDoor
open Go.RowKit

set_option maxHeartbeats 400000 in
theorem num_exact (n : Int) (w : World) : Calls Tryz.prog 11 #[.int .i64 n] w fun e w' => e = .returned (.agg #[.int .u8 1, .int .i64 n, .string ⟨#[]⟩, .slice none 0 0]) ∧ Below w.heap.size w w' := by
  go_enter Tryz.func11, Tryz.ntmps11
  go_wp2
  exact bodyPost_ret (v := .agg #[.int .u8 1, .int .i64 n, .string ⟨#[]⟩, .slice none 0 0]) (by simp [results, Tryz.f11, go_sem]) rfl ⟨rfl, (Below.refl _ w).alloc (Nat.le_refl _) _⟩
set_option maxHeartbeats 400000 in
theorem sym_exact (s : ByteArray) (w : World) : Calls Tryz.prog 12 #[.string s] w fun e w' => e = .returned (.agg #[.int .u8 2, .int .i64 0, .string s, .slice none 0 0]) ∧ Below w.heap.size w w' := by
  go_enter Tryz.func12, Tryz.ntmps12
  go_wp2
  exact bodyPost_ret (v := .agg #[.int .u8 2, .int .i64 0, .string s, .slice none 0 0]) (by simp [results, Tryz.f12, go_sem]) rfl ⟨rfl, (Below.refl _ w).alloc (Nat.le_refl _) _⟩
set_option maxHeartbeats 400000 in
theorem fun_exact (s : ByteArray) (a : Option Addr) (l cap : Nat) (w : World) : Calls Tryz.prog 9 #[.string s, .slice a l cap] w fun e w' => e = .returned (.agg #[.int .u8 4, .int .i64 0, .string s, .slice a l cap]) ∧ Below w.heap.size w w' := by
  go_enter Tryz.func9, Tryz.ntmps9
  go_wp2
  exact bodyPost_ret (v := .agg #[.int .u8 4, .int .i64 0, .string s, .slice a l cap]) (by simp [results, Tryz.f9, go_sem]) rfl ⟨rfl, (Below.refl _ w).alloc (Nat.le_refl _) _⟩
set_option maxHeartbeats 400000 in
theorem op_exact (s : ByteArray) (a : Option Addr) (l cap : Nat) (w : World) : Calls Tryz.prog 10 #[.string s, .slice a l cap] w fun e w' => e = .returned (.agg #[.int .u8 5, .int .i64 0, .string s, .slice a l cap]) ∧ Below w.heap.size w w' := by
  go_enter Tryz.func10, Tryz.ntmps10
  go_wp2
  exact bodyPost_ret (v := .agg #[.int .u8 5, .int .i64 0, .string s, .slice a l cap]) (by simp [results, Tryz.f10, go_sem]) rfl ⟨rfl, (Below.refl _ w).alloc (Nat.le_refl _) _⟩

/-- What the slots of the first term's region hold. -/
def factsT (B : Nat) : List (Value → World → Prop) := [
  fun v _ => v = .agg #[.int .u8 1, .int .i64 1, .string ⟨#[]⟩, .slice none 0 0],
  fun v _ => v = .agg #[.int .u8 3, .int .i64 0, .string ⟨#[88]⟩, .slice none 0 0],
  fun v w => ∃ p, v = .slice (some ⟨p, 0, none⟩) 2 2 ∧ HasRow p #[.int .u8 1, .int .i64 1, .string ⟨#[]⟩, .slice none 0 0, .int .u8 3, .int .i64 0, .string ⟨#[88]⟩, .slice none 0 0] w,
  fun v w => ∃ p, v = .agg #[.int .u8 4, .int .i64 0, .string ⟨#[102]⟩, .slice (some ⟨p, 0, none⟩) 2 2] ∧ HasRow p #[.int .u8 1, .int .i64 1, .string ⟨#[]⟩, .slice none 0 0, .int .u8 3, .int .i64 0, .string ⟨#[88]⟩, .slice none 0 0] w,
  fun v _ => v = .agg #[.int .u8 1, .int .i64 3, .string ⟨#[]⟩, .slice none 0 0],
  fun v w => ∃ p q, v = .slice (some ⟨q, 0, none⟩) 2 2 ∧ HasRow p #[.int .u8 1, .int .i64 1, .string ⟨#[]⟩, .slice none 0 0, .int .u8 3, .int .i64 0, .string ⟨#[88]⟩, .slice none 0 0] w ∧
    HasRow q #[.int .u8 4, .int .i64 0, .string ⟨#[102]⟩, .slice (some ⟨p, 0, none⟩) 2 2, .int .u8 1, .int .i64 3, .string ⟨#[]⟩, .slice none 0 0] w,
  fun v w => ∃ p q, v = .agg #[.int .u8 5, .int .i64 0, .string ⟨#[45]⟩, .slice (some ⟨q, 0, none⟩) 2 2] ∧ HasRow p #[.int .u8 1, .int .i64 1, .string ⟨#[]⟩, .slice none 0 0, .int .u8 3, .int .i64 0, .string ⟨#[88]⟩, .slice none 0 0] w ∧
    HasRow q #[.int .u8 4, .int .i64 0, .string ⟨#[102]⟩, .slice (some ⟨p, 0, none⟩) 2 2, .int .u8 1, .int .i64 3, .string ⟨#[]⟩, .slice none 0 0] w,
  fun v w => ∃ g, v = .pointer (some ⟨g, 0, none⟩) ∧ B ≤ g ∧ HasRow g #[.int .u8 0, .int .i64 0, .string ⟨#[]⟩, .slice none 0 0] w]
def FT (B : Nat) : Facts := fun i v w => ((factsT B).getD i fun _ _ => True) v w

theorem FT_grow (B : Nat) (i : Nat) (v : Value) (w w' : World) (h : FT B i v w) (hb : Below w.heap.size w w') : FT B i v w' := by
  unfold FT at *
  match i, h with
  | 0, h | 1, h | 4, h => exact h
  | 2, ⟨p, h1, h2⟩ | 3, ⟨p, h1, h2⟩ => exact ⟨p, h1, h2.grow hb⟩
  | 7, ⟨p, h1, hB, h2⟩ => exact ⟨p, h1, hB, h2.grow hb⟩
  | 5, ⟨p, q, h1, h2, h3⟩ | 6, ⟨p, q, h1, h2, h3⟩ => exact ⟨p, q, h1, h2.grow hb, h3.grow hb⟩
  | _ + 8, h => trivial

/-DESCS-/
def exDescs : List Desc := [
  .tm tA,
  .val (.bool true),
  .val (.bool true),
  .tm tA,
  .val (.int .i64 3),
  .val (.bool true),
  .val (.bool true),
  .val (.bool true),
  .tm tA,
  .val (.bool false),
  .val (.bool true),
  .val (.bool true),
  .val (.bool true),
  .tm tA,
  .val (.bool false),
  .val (.bool true),
  .val (.bool true),
  .val (.bool true),
  .tm tA,
  .str ([⟨#[88]⟩]),
  .str ([⟨#[88]⟩]),
  .val (.bool true),
  .val (.bool true),
  .val (.bool true),
  .tm tA,
  .val (.string ⟨#[102,40,49,44,88,41,45,51]⟩),
  .val (.bool true),
  .val (.bool true),
  .val (.bool true),
  .tm (tNum 1),
  .tm (tNum 2),
  .sl ([tNum 1, tNum 2]),
  .tm t12,
  .tm (tNum 3),
  .sl ([t12, tNum 3]),
  .tm t123,
  .val (.string ⟨#[49,45,50,45,51]⟩),
  .val (.bool true),
  .val (.bool true),
  .val (.bool true),
  .tm (tNum 1),
  .tm (tNum 2),
  .tm (tNum 3),
  .sl ([tNum 2, tNum 3]),
  .tm t23,
  .sl ([tNum 1, t23]),
  .tm t1_23,
  .val (.string ⟨#[49,45,40,50,45,51,41]⟩),
  .val (.bool true),
  .val (.bool true),
  .val (.bool true),
  .tm (tNum 5),
  .sl ([tNum 5]),
  .tm tm5,
  .val (.string ⟨#[45,40,53,41]⟩),
  .val (.bool true),
  .val (.bool true),
  .val (.bool true),
  .tm (tNum (-5)),
  .val (.string ⟨#[45,53]⟩),
  .val (.bool true),
  .val (.bool true),
  .val (.bool true),
  .tm (tNum (-1)),
  .tm (tNum 7),
  .tm ta,
  .tm tb,
  .tm ta,
  .sl ([ta]),
  .tm (tFun ⟨#[102]⟩ [ta]),
  .tm ta,
  .sl ([ta]),
  .tm (tFun ⟨#[103]⟩ [ta]),
  .tm ta,
  .tm ta,
  .sl ([ta, ta]),
  .tm (tFun ⟨#[102]⟩ [ta, ta]),
  .sl tRise,
  .val (.bool true),
  .val (.bool true),
  .val (.bool true)]
/-END-DESCS-/
set_option maxRecDepth 100000 in
set_option maxHeartbeats 20000000 in
theorem awake_any (w : World) (hgl0 : 0 < w.heap.size) (htab0 : Lib.TabIs Tryz.prog w "internal/strconv.uint64pow10" .u64 Lib.pow10Tab) : Calls Tryz.prog 4 #[] w fun e w' => e = .returned (.bool true) ∧ Below w.heap.size w w' := by
  go_enter Tryz.func4, Tryz.ntmps4
  have HTB := Lib.hid htab0; clear htab0
  go_wp2_with fail
  rename_i Q' K hK
  have hx := World.alloc_heap_new w (.cells #[.int .u8 3, .int .i64 0, .string ⟨#[88]⟩, .slice none 0 0] 24)
  have hBe : Below w.heap.size w (w.alloc (.cells #[.int .u8 3, .int .i64 0, .string ⟨#[88]⟩, .slice none 0 0] 24)) := (Below.refl _ w).alloc (Nat.le_refl _) _
  revert hx hBe
  generalize w.alloc (.cells #[.int .u8 3, .int .i64 0, .string ⟨#[88]⟩, .slice none 0 0] 24) = W1
  intro hx hBe
  refine wp_region_grow_last (by kernel_rfl) (FT w.heap.size) (FT_grow w.heap.size) (by kernel_rfl) 8 _ rfl (by kernel_rfl) ?_ ?_
  · refine steps_but 8 rfl ?_
    simp only [List.take_succ_cons, List.take_zero]
    refine ⟨?_, ?_, ?_, ?_, ?_, ?_, ?_, ?_, trivial⟩
    · intro a wx hb hd hs ho hp
      refine ⟨rfl, ?_⟩
      unfold Oper.wp
      go_simp
      refine (num_exact 1 wx).mono ?_
      rintro e w2 ⟨rfl, hb2⟩
      exact Stepped.at rfl hd hb2 rfl
    · intro a wx hb hd hs ho hp
      refine ⟨rfl, ?_⟩
      have h1 : a.tmps.getD 1 undef = .pointer (some ⟨w.heap.size, 0, none⟩) := ho 1 (by kernel_rfl)
      have hx2 := (hb.block _ (Array.getElem?_eq_some_iff.1 hx).1).trans hx
      have x0 := cells_at hx2 0 _ rfl
      have x1 := cells_at hx2 1 _ rfl
      have x2 := cells_at hx2 2 _ rfl
      have x3 := cells_at hx2 3 _ rfl
      unfold Oper.wp
      go_simp
      exact Stepped.at rfl hd (Below.refl _ _) rfl
    · intro a wx hb hd hs ho hp
      refine ⟨rfl, ?_⟩
      have h0 : a.tmps.getD 6 undef = .agg #[.int .u8 1, .int .i64 1, .string ⟨#[]⟩, .slice none 0 0] := hp 0 _ _ (by kernel_rfl) rfl rfl
      have h1 : a.tmps.getD 7 undef = .agg #[.int .u8 3, .int .i64 0, .string ⟨#[88]⟩, .slice none 0 0] := hp 1 _ _ (by kernel_rfl) rfl rfl
      have h0' := slot_of (hs.trans (show _ = 95 from by kernel_rfl)) (by decide) h0
      have h1' := slot_of (hs.trans (show _ = 95 from by kernel_rfl)) (by decide) h1
      unfold Oper.wp
      go_simp
      have hb2 : Below wx.heap.size wx (wx.alloc (.cells #[.int .u8 1, .int .i64 1, .string ⟨#[]⟩, .slice none 0 0, .int .u8 3, .int .i64 0, .string ⟨#[88]⟩, .slice none 0 0] 24)) := (Below.refl _ _).alloc (Nat.le_refl _) _
      refine Stepped.at rfl hd hb2 ?_
      exact ⟨_, rfl, World.alloc_heap_new _ _⟩
    · intro a wx hb hd hs ho hp
      refine ⟨rfl, ?_⟩
      obtain ⟨p, h2, hr⟩ : FT w.heap.size 2 (a.tmps.getD 8 undef) wx := hp 2 _ _ (by kernel_rfl) rfl rfl
      unfold Oper.wp
      go_simp
      refine (fun_exact _ _ _ _ wx).mono ?_
      rintro e w2 ⟨rfl, hb2⟩
      exact Stepped.at rfl hd hb2 ⟨p, rfl, hr.grow hb2⟩
    · intro a wx hb hd hs ho hp
      refine ⟨rfl, ?_⟩
      unfold Oper.wp
      go_simp
      refine (num_exact 3 wx).mono ?_
      rintro e w2 ⟨rfl, hb2⟩
      exact Stepped.at rfl hd hb2 rfl
    · intro a wx hb hd hs ho hp
      refine ⟨rfl, ?_⟩
      obtain ⟨p, h0, hr⟩ : FT w.heap.size 3 (a.tmps.getD 9 undef) wx := hp 3 _ _ (by kernel_rfl) rfl rfl
      have h1 : a.tmps.getD 10 undef = .agg #[.int .u8 1, .int .i64 3, .string ⟨#[]⟩, .slice none 0 0] := hp 4 _ _ (by kernel_rfl) rfl rfl
      have h0' := slot_of (hs.trans (show _ = 95 from by kernel_rfl)) (by decide) h0
      have h1' := slot_of (hs.trans (show _ = 95 from by kernel_rfl)) (by decide) h1
      unfold Oper.wp
      go_simp
      have hb2 : Below wx.heap.size wx (wx.alloc (.cells #[.int .u8 4, .int .i64 0, .string ⟨#[102]⟩, .slice (some ⟨p, 0, none⟩) 2 2, .int .u8 1, .int .i64 3, .string ⟨#[]⟩, .slice none 0 0] 24)) := (Below.refl _ _).alloc (Nat.le_refl _) _
      exact Stepped.at rfl hd hb2 ⟨p, _, rfl, hr.grow hb2, World.alloc_heap_new _ _⟩
    · intro a wx hb hd hs ho hp
      refine ⟨rfl, ?_⟩
      obtain ⟨p, q, h2, hr, hr2⟩ : FT w.heap.size 5 (a.tmps.getD 11 undef) wx := hp 5 _ _ (by kernel_rfl) rfl rfl
      unfold Oper.wp
      go_simp
      refine (op_exact _ _ _ _ wx).mono ?_
      rintro e w2 ⟨rfl, hb2⟩
      exact Stepped.at rfl hd hb2 ⟨p, q, rfl, hr.grow hb2, hr2.grow hb2⟩
    · intro a wx hb hd hs ho hp
      refine ⟨rfl, ?_⟩
      unfold Oper.wp
      go_simp
      have hb2 : Below wx.heap.size wx (wx.alloc (.cells #[.int .u8 0, .int .i64 0, .string ⟨#[]⟩, .slice none 0 0] 24)) := (Below.refl _ _).alloc (Nat.le_refl _) _
      refine Stepped.at rfl hd hb2 ?_
      exact ⟨_, rfl, by have := hBe.size; have := hb.size; omega, World.alloc_heap_new _ _⟩
  · intro a wx hb hd hs ho hp
    refine wpOp_of rfl rfl ?_
    obtain ⟨p, q, h12, hr, hr2⟩ : FT w.heap.size 6 (a.tmps.getD 12 undef) wx := hp 6 _ _ rfl (by decide) rfl
    obtain ⟨g, h2, hgB, hg⟩ : FT w.heap.size 7 (a.tmps.getD 2 undef) wx := hp 7 _ _ rfl (by decide) rfl
    unfold Oper.wp
    have g0 := cells_at hg 0 _ rfl
    have g1 := cells_at hg 1 _ rfl
    have g2 := cells_at hg 2 _ rfl
    have g3 := cells_at hg 3 _ rfl
    have f0 := HasRow.free hg 0
    have k1 := HasRow.put hg 0 (.int .u8 5)
    have f1 := k1.free 1
    have k2 := k1.put 1 (.int .i64 0)
    have f2 := k2.free 2
    have k3 := k2.put 2 (.string ⟨#[45]⟩)
    have f3 := k3.free 3
    have k4 := k3.put 3 (.slice (some ⟨q, 0, none⟩) 2 2)
    have hrg := hr.ne hg (by simp)
    have hqg := hr2.ne hg (by simp)
    have m1 := (((hr.other hrg 0 (.int .u8 5)).other hrg 1 (.int .i64 0)).other hrg 2 (.string ⟨#[45]⟩)).other hrg 3 (.slice (some ⟨q, 0, none⟩) 2 2)
    have m2 := (((hr2.other hqg 0 (.int .u8 5)).other hqg 1 (.int .i64 0)).other hqg 2 (.string ⟨#[45]⟩)).other hqg 3 (.slice (some ⟨q, 0, none⟩) 2 2)
    go_simp
    have hB : Below w.heap.size w ((((wx.setCell ⟨g, 0, none⟩ (.int .u8 5)).setCell ⟨g, 1, none⟩ (.int .i64 0)).setCell ⟨g, 2, none⟩ (.string ⟨#[45]⟩)).setCell ⟨g, 3, none⟩ (.slice (some ⟨q, 0, none⟩) 2 2)) := by
      exact ((((hBe.trans (hb.mono hBe.size)).setCell hgB _).setCell hgB _).setCell hgB _).setCell hgB _
    revert k4 m1 m2 hB
    generalize ((((wx.setCell ⟨g, 0, none⟩ (.int .u8 5)).setCell ⟨g, 1, none⟩ (.int .i64 0)).setCell ⟨g, 2, none⟩ (.string ⟨#[45]⟩)).setCell ⟨g, 3, none⟩ (.slice (some ⟨q, 0, none⟩) 2 2)) = W2
    intro k4 m1 m2 hB
    clear hg k1 k2 k3 f0 f1 f2 f3 g0 g1 g2 g3 hr hr2 hrg hqg
    replace k4 : HasRow g #[.int .u8 5, .int .i64 0, .string ⟨#[45]⟩, .slice (some ⟨q, 0, none⟩) 2 2] W2 := k4
    refine hK _ _ ?_
    have hs1 : a.tmps.size = 95 := hs.trans (by kernel_rfl)
    have hd1 : a.defers = [] := hd
    clear hK hp ho hs hd h12 hb hBe hx
    go_wp2_with (go_at_call 12; refine (sym_exact _ _).mono ?_; rintro e W3 ⟨rfl, hb3⟩)
    rename_i Wa hba K2 hK2
    have hW0 : Below W2.heap.size W2 W3 := hba.trans (hb3.mono hba.size)
    have hW : Below W2.heap.size W2 ((W3.alloc (.cells #[.int .u8 2, .int .i64 0, .string ⟨#[97]⟩, .slice none 0 0] 24)).alloc (.cells #[.int .u8 2, .int .i64 0, .string ⟨#[98]⟩, .slice none 0 0] 24)) :=
      (hW0.alloc hW0.size _).alloc (by have := hW0.size; simp; omega) _
    have hr3 : HasRow W3.heap.size #[.int .u8 2, .int .i64 0, .string ⟨#[97]⟩, .slice none 0 0] ((W3.alloc (.cells #[.int .u8 2, .int .i64 0, .string ⟨#[97]⟩, .slice none 0 0] 24)).alloc (.cells #[.int .u8 2, .int .i64 0, .string ⟨#[98]⟩, .slice none 0 0] 24)) :=
      HasRow.grow (World.alloc_heap_new _ _) ((Below.refl _ _).alloc (Nat.le_refl _) _)
    have hr4 : HasRow (W3.heap.size + 1) #[.int .u8 2, .int .i64 0, .string ⟨#[98]⟩, .slice none 0 0] ((W3.alloc (.cells #[.int .u8 2, .int .i64 0, .string ⟨#[97]⟩, .slice none 0 0] 24)).alloc (.cells #[.int .u8 2, .int .i64 0, .string ⟨#[98]⟩, .slice none 0 0] 24)) := by
      have := World.alloc_heap_new (W3.alloc (.cells #[.int .u8 2, .int .i64 0, .string ⟨#[97]⟩, .slice none 0 0] 24)) (.cells #[.int .u8 2, .int .i64 0, .string ⟨#[98]⟩, .slice none 0 0] 24)
      simpa [HasRow] using this
    revert hW hr3 hr4
    generalize ((W3.alloc (.cells #[.int .u8 2, .int .i64 0, .string ⟨#[97]⟩, .slice none 0 0] 24)).alloc (.cells #[.int .u8 2, .int .i64 0, .string ⟨#[98]⟩, .slice none 0 0] 24)) = W4
    intro hW hr3 hr4
    have hg := HasRow.grow k4 hW
    have hTA := tA_holds (m1.grow hW) (m2.grow hW)
    have hB4 := hB.trans (hW.mono hB.size)
    have hgl := Nat.lt_of_lt_of_le hgl0 hB4.size
    have htab := tab_below hB4 hgl0 HTB.out
    clear m1 m2 k4 hW hW0 hba hb3 hB
    generalize W3.heap.size = n3 at hr3 hr4 ⊢
    have hT := hs1
    have s2 : ((((a.tmps.setIfInBounds 13 (.agg #[.int .u8 2, .int .i64 0, .string ⟨#[97]⟩, .slice none 0 0])).setIfInBounds 14 (.agg #[.int .u8 2, .int .i64 0, .string ⟨#[98]⟩, .slice none 0 0])).setIfInBounds 3 (.pointer (some ⟨n3, 0, none⟩))).setIfInBounds 4 (.pointer (some ⟨n3 + 1, 0, none⟩))).getD 2 undef = .pointer (some ⟨g, 0, none⟩) := by
      go_simp
      exact slot_of hs1 (by decide) h2
    have s3 : ((((a.tmps.setIfInBounds 13 (.agg #[.int .u8 2, .int .i64 0, .string ⟨#[97]⟩, .slice none 0 0])).setIfInBounds 14 (.agg #[.int .u8 2, .int .i64 0, .string ⟨#[98]⟩, .slice none 0 0])).setIfInBounds 3 (.pointer (some ⟨n3, 0, none⟩))).setIfInBounds 4 (.pointer (some ⟨n3 + 1, 0, none⟩))).getD 3 undef = .pointer (some ⟨n3, 0, none⟩) := by
      go_simp
    have s4 : ((((a.tmps.setIfInBounds 13 (.agg #[.int .u8 2, .int .i64 0, .string ⟨#[97]⟩, .slice none 0 0])).setIfInBounds 14 (.agg #[.int .u8 2, .int .i64 0, .string ⟨#[98]⟩, .slice none 0 0])).setIfInBounds 3 (.pointer (some ⟨n3, 0, none⟩))).setIfInBounds 4 (.pointer (some ⟨n3 + 1, 0, none⟩))).getD 4 undef = .pointer (some ⟨n3 + 1, 0, none⟩) := by
      go_simp
    have hT : ((((a.tmps.setIfInBounds 13 (.agg #[.int .u8 2, .int .i64 0, .string ⟨#[97]⟩, .slice none 0 0])).setIfInBounds 14 (.agg #[.int .u8 2, .int .i64 0, .string ⟨#[98]⟩, .slice none 0 0])).setIfInBounds 3 (.pointer (some ⟨n3, 0, none⟩))).setIfInBounds 4 (.pointer (some ⟨n3 + 1, 0, none⟩))).size = 95 := by
      simpa using hs1
    revert s2 s3 s4 hT
    generalize ((((a.tmps.setIfInBounds 13 (.agg #[.int .u8 2, .int .i64 0, .string ⟨#[97]⟩, .slice none 0 0])).setIfInBounds 14 (.agg #[.int .u8 2, .int .i64 0, .string ⟨#[98]⟩, .slice none 0 0])).setIfInBounds 3 (.pointer (some ⟨n3, 0, none⟩))).setIfInBounds 4 (.pointer (some ⟨n3 + 1, 0, none⟩))) = T0
    intro s2 s3 s4 hT
    clear h2 hs1 hd1 HTB
    refine wp_region_grow (by kernel_rfl) (FD exDescs) (FD_grow exDescs) ?_ (steps_all ?_) ?_
    · show regionOk _ T0.size = true
      rw [hT]
      kernel_rfl
    · simp only [List.append_eq, List.cons_append, List.nil_append]
      /-STEPS-/
      refine ⟨?_, ?_, ?_, ?_, ?_, ?_, ?_, ?_, ?_, ?_, ?_, ?_, ?_, ?_, ?_, ?_, ?_, ?_, ?_, ?_, ?_, ?_, ?_, ?_, ?_, ?_, ?_, ?_, ?_, ?_, ?_, ?_, ?_, ?_, ?_, ?_, ?_, ?_, ?_, ?_, ?_, ?_, ?_, ?_, ?_, ?_, ?_, ?_, ?_, ?_, ?_, ?_, ?_, ?_, ?_, ?_, ?_, ?_, ?_, ?_, ?_, ?_, ?_, ?_, ?_, ?_, ?_, ?_, ?_, ?_, ?_, ?_, ?_, ?_, ?_, ?_, ?_, ?_, ?_, ?_, ?_, trivial⟩
      · intro a wx hb hd hs ho hp
        refine ⟨rfl, ?_⟩
        have h1 : a.tmps.getD 2 undef = _ := (ho 2 (by kernel_rfl)).trans s2
        have hx := HasRow.grow hg hb
        have x0 := cells_at hx 0 _ rfl
        have x1 := cells_at hx 1 _ rfl
        have x2 := cells_at hx 2 _ rfl
        have x3 := cells_at hx 3 _ rfl
        unfold Oper.wp
        go_simp
        exact Stepped.at rfl hd (Below.refl _ _) (FD_mk (.tm tA) rfl ⟨_, _, _, _, rfl, ((hTA.below hb).mono hb.size)⟩)
      · intro a wx hb hd hs ho hp
        refine ⟨rfl, ?_⟩
        obtain ⟨x0, x1, x2, x3, xe, xt⟩ := tm_at hp 0 15 tA (by kernel_rfl) rfl
        unfold Oper.wp
        go_simp
        refine (valid_any tA _ _ _ _ wx xt tA_dep).mono ?_
        rintro e w2 ⟨rfl, hb2⟩
        exact Stepped.at rfl hd hb2 (FD_mk (.val (.bool true)) rfl (congrArg Value.bool tA_valid))
      · intro a wx hb hd hs ho hp
        refine ⟨rfl, ?_⟩
        have h16 : a.tmps.getD 16 undef = .bool true := val_at hp 1 16 (by kernel_rfl) rfl
        unfold Oper.wp
        go_simp
        exact Stepped.at rfl hd (Below.refl _ _) (FD_mk (.val (.bool true)) rfl rfl)
      · intro a wx hb hd hs ho hp
        refine ⟨wanted_of rfl (yielded_at (k := 2) (d := 17) (by kernel_rfl) (val_at hp 2 17 (by kernel_rfl) rfl)), ?_⟩
        have h1 : a.tmps.getD 2 undef = _ := (ho 2 (by kernel_rfl)).trans s2
        have hx := HasRow.grow hg hb
        have x0 := cells_at hx 0 _ rfl
        have x1 := cells_at hx 1 _ rfl
        have x2 := cells_at hx 2 _ rfl
        have x3 := cells_at hx 3 _ rfl
        unfold Oper.wp
        go_simp
        exact Stepped.at rfl hd (Below.refl _ _) (FD_mk (.tm tA) rfl ⟨_, _, _, _, rfl, ((hTA.below hb).mono hb.size)⟩)
      · intro a wx hb hd hs ho hp
        refine ⟨wanted_of rfl (yielded_at (k := 2) (d := 17) (by kernel_rfl) (val_at hp 2 17 (by kernel_rfl) rfl)), ?_⟩
        obtain ⟨x0, x1, x2, x3, xe, xt⟩ := tm_at hp 3 18 tA (by kernel_rfl) rfl
        unfold Oper.wp
        go_simp
        refine (depth_any tA _ _ _ _ wx xt tA_dep).mono ?_
        rintro e w2 ⟨rfl, hb2⟩
        exact Stepped.at rfl hd hb2 (FD_mk (.val (.int .i64 3)) rfl rfl)
      · intro a wx hb hd hs ho hp
        refine ⟨wanted_of rfl (yielded_at (k := 2) (d := 17) (by kernel_rfl) (val_at hp 2 17 (by kernel_rfl) rfl)), ?_⟩
        have h19 : a.tmps.getD 19 undef = .int .i64 3 := val_at hp 4 19 (by kernel_rfl) rfl
        unfold Oper.wp
        go_simp
        exact Stepped.at rfl hd (Below.refl _ _) (FD_mk (.val (.bool true)) rfl rfl)
      · intro a wx hb hd hs ho hp
        refine ⟨rfl, ?_⟩
        have h17 : a.tmps.getD 17 undef = .bool true := val_at hp 2 17 (by kernel_rfl) rfl
        have h20 : a.tmps.getD 20 undef = .bool true := val_at hp 5 20 (by kernel_rfl) rfl
        unfold Oper.wp
        go_simp
        exact Stepped.at rfl hd (Below.refl _ _) (FD_mk (.val (.bool true)) rfl rfl)
      · intro a wx hb hd hs ho hp
        refine ⟨rfl, ?_⟩
        have h21 : a.tmps.getD 21 undef = .bool true := val_at hp 6 21 (by kernel_rfl) rfl
        unfold Oper.wp
        go_simp
        exact Stepped.at rfl hd (Below.refl _ _) (FD_mk (.val (.bool true)) rfl rfl)
      · intro a wx hb hd hs ho hp
        refine ⟨wanted_of rfl (yielded_at (k := 7) (d := 22) (by kernel_rfl) (val_at hp 7 22 (by kernel_rfl) rfl)), ?_⟩
        have h1 : a.tmps.getD 2 undef = _ := (ho 2 (by kernel_rfl)).trans s2
        have hx := HasRow.grow hg hb
        have x0 := cells_at hx 0 _ rfl
        have x1 := cells_at hx 1 _ rfl
        have x2 := cells_at hx 2 _ rfl
        have x3 := cells_at hx 3 _ rfl
        unfold Oper.wp
        go_simp
        exact Stepped.at rfl hd (Below.refl _ _) (FD_mk (.tm tA) rfl ⟨_, _, _, _, rfl, ((hTA.below hb).mono hb.size)⟩)
      · intro a wx hb hd hs ho hp
        refine ⟨wanted_of rfl (yielded_at (k := 7) (d := 22) (by kernel_rfl) (val_at hp 7 22 (by kernel_rfl) rfl)), ?_⟩
        obtain ⟨x0, x1, x2, x3, xe, xt⟩ := tm_at hp 8 23 tA (by kernel_rfl) rfl
        unfold Oper.wp
        go_simp
        refine (ground_any tA _ _ _ _ wx xt tA_dep).mono ?_
        rintro e w2 ⟨rfl, hb2⟩
        exact Stepped.at rfl hd hb2 (FD_mk (.val (.bool false)) rfl (congrArg Value.bool tA_ground))
      · intro a wx hb hd hs ho hp
        refine ⟨wanted_of rfl (yielded_at (k := 7) (d := 22) (by kernel_rfl) (val_at hp 7 22 (by kernel_rfl) rfl)), ?_⟩
        have h24 : a.tmps.getD 24 undef = .bool false := val_at hp 9 24 (by kernel_rfl) rfl
        unfold Oper.wp
        go_simp
        exact Stepped.at rfl hd (Below.refl _ _) (FD_mk (.val (.bool true)) rfl rfl)
      · intro a wx hb hd hs ho hp
        refine ⟨rfl, ?_⟩
        have h22 : a.tmps.getD 22 undef = .bool true := val_at hp 7 22 (by kernel_rfl) rfl
        have h25 : a.tmps.getD 25 undef = .bool true := val_at hp 10 25 (by kernel_rfl) rfl
        unfold Oper.wp
        go_simp
        exact Stepped.at rfl hd (Below.refl _ _) (FD_mk (.val (.bool true)) rfl rfl)
      · intro a wx hb hd hs ho hp
        refine ⟨rfl, ?_⟩
        have h26 : a.tmps.getD 26 undef = .bool true := val_at hp 11 26 (by kernel_rfl) rfl
        unfold Oper.wp
        go_simp
        exact Stepped.at rfl hd (Below.refl _ _) (FD_mk (.val (.bool true)) rfl rfl)
      · intro a wx hb hd hs ho hp
        refine ⟨wanted_of rfl (yielded_at (k := 12) (d := 27) (by kernel_rfl) (val_at hp 12 27 (by kernel_rfl) rfl)), ?_⟩
        have h1 : a.tmps.getD 2 undef = _ := (ho 2 (by kernel_rfl)).trans s2
        have hx := HasRow.grow hg hb
        have x0 := cells_at hx 0 _ rfl
        have x1 := cells_at hx 1 _ rfl
        have x2 := cells_at hx 2 _ rfl
        have x3 := cells_at hx 3 _ rfl
        unfold Oper.wp
        go_simp
        exact Stepped.at rfl hd (Below.refl _ _) (FD_mk (.tm tA) rfl ⟨_, _, _, _, rfl, ((hTA.below hb).mono hb.size)⟩)
      · intro a wx hb hd hs ho hp
        refine ⟨wanted_of rfl (yielded_at (k := 12) (d := 27) (by kernel_rfl) (val_at hp 12 27 (by kernel_rfl) rfl)), ?_⟩
        obtain ⟨x0, x1, x2, x3, xe, xt⟩ := tm_at hp 13 28 tA (by kernel_rfl) rfl
        unfold Oper.wp
        go_simp
        refine (value_any tA _ _ _ _ wx xt tA_dep).mono ?_
        rintro e w2 ⟨rfl, hb2⟩
        exact Stepped.at rfl hd hb2 (FD_mk (.val (.bool false)) rfl (congrArg Value.bool tA_value))
      · intro a wx hb hd hs ho hp
        refine ⟨wanted_of rfl (yielded_at (k := 12) (d := 27) (by kernel_rfl) (val_at hp 12 27 (by kernel_rfl) rfl)), ?_⟩
        have h29 : a.tmps.getD 29 undef = .bool false := val_at hp 14 29 (by kernel_rfl) rfl
        unfold Oper.wp
        go_simp
        exact Stepped.at rfl hd (Below.refl _ _) (FD_mk (.val (.bool true)) rfl rfl)
      · intro a wx hb hd hs ho hp
        refine ⟨rfl, ?_⟩
        have h27 : a.tmps.getD 27 undef = .bool true := val_at hp 12 27 (by kernel_rfl) rfl
        have h30 : a.tmps.getD 30 undef = .bool true := val_at hp 15 30 (by kernel_rfl) rfl
        unfold Oper.wp
        go_simp
        exact Stepped.at rfl hd (Below.refl _ _) (FD_mk (.val (.bool true)) rfl rfl)
      · intro a wx hb hd hs ho hp
        refine ⟨rfl, ?_⟩
        have h31 : a.tmps.getD 31 undef = .bool true := val_at hp 16 31 (by kernel_rfl) rfl
        unfold Oper.wp
        go_simp
        exact Stepped.at rfl hd (Below.refl _ _) (FD_mk (.val (.bool true)) rfl rfl)
      · intro a wx hb hd hs ho hp
        refine ⟨wanted_of rfl (yielded_at (k := 17) (d := 32) (by kernel_rfl) (val_at hp 17 32 (by kernel_rfl) rfl)), ?_⟩
        have h1 : a.tmps.getD 2 undef = _ := (ho 2 (by kernel_rfl)).trans s2
        have hx := HasRow.grow hg hb
        have x0 := cells_at hx 0 _ rfl
        have x1 := cells_at hx 1 _ rfl
        have x2 := cells_at hx 2 _ rfl
        have x3 := cells_at hx 3 _ rfl
        unfold Oper.wp
        go_simp
        exact Stepped.at rfl hd (Below.refl _ _) (FD_mk (.tm tA) rfl ⟨_, _, _, _, rfl, ((hTA.below hb).mono hb.size)⟩)
      · intro a wx hb hd hs ho hp
        refine ⟨wanted_of rfl (yielded_at (k := 17) (d := 32) (by kernel_rfl) (val_at hp 17 32 (by kernel_rfl) rfl)), ?_⟩
        obtain ⟨x0, x1, x2, x3, xe, xt⟩ := tm_at hp 18 33 tA (by kernel_rfl) rfl
        unfold Oper.wp
        go_simp
        refine (vars_any tA _ _ _ _ wx xt tA_dep tA_count).mono ?_
        rintro e w2 ⟨v, ss, rfl, hv, ho2, hb2⟩
        have he := tA_vars hv
        subst he
        exact Stepped.at rfl hd hb2 (FD_mk (.str [⟨#[88]⟩]) rfl (str_owns ho2))
      · intro a wx hb hd hs ho hp
        refine ⟨wanted_of rfl (yielded_at (k := 17) (d := 32) (by kernel_rfl) (val_at hp 17 32 (by kernel_rfl) rfl)), ?_⟩
        unfold Oper.wp
        go_simp
        exact Stepped.at rfl hd ((Below.refl _ _).alloc (Nat.le_refl _) _) (FD_mk (.str [⟨#[88]⟩]) rfl (str_row (World.alloc_heap_new _ _) rfl))
      · intro a wx hb hd hs ho hp
        refine ⟨wanted_of rfl (yielded_at (k := 17) (d := 32) (by kernel_rfl) (val_at hp 17 32 (by kernel_rfl) rfl)), ?_⟩
        obtain ⟨xa, xc, xe, xl, xr⟩ := str_at hp 19 34 ([⟨#[88]⟩]) (by kernel_rfl) rfl
        obtain ⟨ya, yc, ye, yl, yr⟩ := str_at hp 20 35 ([⟨#[88]⟩]) (by kernel_rfl) rfl
        unfold Oper.wp
        go_simp
        refine (sameTexts_true [⟨#[88]⟩] _ _ wx ⟨_, _, rfl, xl, xr⟩ ⟨_, _, rfl, yl, yr⟩).mono ?_
        rintro e w2 ⟨rfl, hb2⟩
        exact Stepped.at rfl hd hb2 (FD_mk (.val (.bool true)) rfl rfl)
      · intro a wx hb hd hs ho hp
        refine ⟨rfl, ?_⟩
        have h32 : a.tmps.getD 32 undef = .bool true := val_at hp 17 32 (by kernel_rfl) rfl
        have h36 : a.tmps.getD 36 undef = .bool true := val_at hp 21 36 (by kernel_rfl) rfl
        unfold Oper.wp
        go_simp
        exact Stepped.at rfl hd (Below.refl _ _) (FD_mk (.val (.bool true)) rfl rfl)
      · intro a wx hb hd hs ho hp
        refine ⟨rfl, ?_⟩
        have h37 : a.tmps.getD 37 undef = .bool true := val_at hp 22 37 (by kernel_rfl) rfl
        unfold Oper.wp
        go_simp
        exact Stepped.at rfl hd (Below.refl _ _) (FD_mk (.val (.bool true)) rfl rfl)
      · intro a wx hb hd hs ho hp
        refine ⟨wanted_of rfl (yielded_at (k := 23) (d := 38) (by kernel_rfl) (val_at hp 23 38 (by kernel_rfl) rfl)), ?_⟩
        have h1 : a.tmps.getD 2 undef = _ := (ho 2 (by kernel_rfl)).trans s2
        have hx := HasRow.grow hg hb
        have x0 := cells_at hx 0 _ rfl
        have x1 := cells_at hx 1 _ rfl
        have x2 := cells_at hx 2 _ rfl
        have x3 := cells_at hx 3 _ rfl
        unfold Oper.wp
        go_simp
        exact Stepped.at rfl hd (Below.refl _ _) (FD_mk (.tm tA) rfl ⟨_, _, _, _, rfl, ((hTA.below hb).mono hb.size)⟩)
      · intro a wx hb hd hs ho hp
        refine ⟨wanted_of rfl (yielded_at (k := 23) (d := 38) (by kernel_rfl) (val_at hp 23 38 (by kernel_rfl) rfl)), ?_⟩
        obtain ⟨x0, x1, x2, x3, xe, xt⟩ := tm_at hp 24 39 tA (by kernel_rfl) rfl
        unfold Oper.wp
        go_simp
        refine (string_any tA _ _ _ _ wx xt tA_dep (fun _ => tA_len) (Nat.lt_of_lt_of_le hgl hb.size) (tab_below hb hgl htab)).mono ?_
        rintro e w2 ⟨rfl, hb2⟩
        exact Stepped.at rfl hd hb2 (FD_mk (.val (.string ⟨#[102,40,49,44,88,41,45,51]⟩)) rfl (congrArg Value.string tA_str))
      · intro a wx hb hd hs ho hp
        refine ⟨wanted_of rfl (yielded_at (k := 23) (d := 38) (by kernel_rfl) (val_at hp 23 38 (by kernel_rfl) rfl)), ?_⟩
        have h40 : a.tmps.getD 40 undef = .string ⟨#[102,40,49,44,88,41,45,51]⟩ := val_at hp 25 40 (by kernel_rfl) rfl
        unfold Oper.wp
        go_simp
        exact Stepped.at rfl hd (Below.refl _ _) (FD_mk (.val (.bool true)) rfl rfl)
      · intro a wx hb hd hs ho hp
        refine ⟨rfl, ?_⟩
        have h38 : a.tmps.getD 38 undef = .bool true := val_at hp 23 38 (by kernel_rfl) rfl
        have h41 : a.tmps.getD 41 undef = .bool true := val_at hp 26 41 (by kernel_rfl) rfl
        unfold Oper.wp
        go_simp
        exact Stepped.at rfl hd (Below.refl _ _) (FD_mk (.val (.bool true)) rfl rfl)
      · intro a wx hb hd hs ho hp
        refine ⟨rfl, ?_⟩
        have h42 : a.tmps.getD 42 undef = .bool true := val_at hp 27 42 (by kernel_rfl) rfl
        unfold Oper.wp
        go_simp
        exact Stepped.at rfl hd (Below.refl _ _) (FD_mk (.val (.bool true)) rfl rfl)
      · intro a wx hb hd hs ho hp
        refine ⟨wanted_of rfl (yielded_at (k := 28) (d := 43) (by kernel_rfl) (val_at hp 28 43 (by kernel_rfl) rfl)), ?_⟩
        unfold Oper.wp
        go_simp
        refine (num_any (1) (i64_mk (by omega)) wx).mono ?_
        rintro e w2 ⟨v, rfl, hv, hb2⟩
        exact Stepped.at rfl hd hb2 (FD_mk (.tm (tNum 1)) rfl hv)
      · intro a wx hb hd hs ho hp
        refine ⟨wanted_of rfl (yielded_at (k := 28) (d := 43) (by kernel_rfl) (val_at hp 28 43 (by kernel_rfl) rfl)), ?_⟩
        unfold Oper.wp
        go_simp
        refine (num_any (2) (i64_mk (by omega)) wx).mono ?_
        rintro e w2 ⟨v, rfl, hv, hb2⟩
        exact Stepped.at rfl hd hb2 (FD_mk (.tm (tNum 2)) rfl hv)
      · intro a wx hb hd hs ho hp
        refine ⟨wanted_of rfl (yielded_at (k := 28) (d := 43) (by kernel_rfl) (val_at hp 28 43 (by kernel_rfl) rfl)), ?_⟩
        obtain ⟨x0, x1, x2, x3, xe, xt⟩ := tm_at hp 29 44 (tNum 1) (by kernel_rfl) rfl
        obtain ⟨y0, y1, y2, y3, ye, yt⟩ := tm_at hp 30 45 (tNum 2) (by kernel_rfl) rfl
        have xs := slot_of (hs.trans hT) (by decide) xe
        have ys := slot_of (hs.trans hT) (by decide) ye
        unfold Oper.wp
        go_simp
        have hA : Below wx.heap.size wx (wx.alloc (.cells #[x0, x1, x2, x3, y0, y1, y2, y3] 24)) := (Below.refl _ _).alloc (Nat.le_refl _) _
        exact Stepped.at rfl hd hA (FD_mk (.sl [tNum 1, tNum 2]) rfl (sl_two (World.alloc_heap_new _ _) ((xt.below hA).mono hA.size) ((yt.below hA).mono hA.size)))
      · intro a wx hb hd hs ho hp
        refine ⟨wanted_of rfl (yielded_at (k := 28) (d := 43) (by kernel_rfl) (val_at hp 28 43 (by kernel_rfl) rfl)), ?_⟩
        obtain ⟨xa, xc, xe, xl, xr⟩ := sl_at hp 31 46 ([tNum 1, tNum 2]) (by kernel_rfl) rfl
        unfold Oper.wp
        go_simp
        refine (op_any ⟨#[45]⟩ (one_small 45) [tNum 1, tNum 2] _ wx ⟨_, _, rfl, xl, xr⟩).mono ?_
        rintro e w2 ⟨v, rfl, hv, hb2⟩
        exact Stepped.at rfl hd hb2 (FD_mk (.tm t12) rfl hv)
      · intro a wx hb hd hs ho hp
        refine ⟨wanted_of rfl (yielded_at (k := 28) (d := 43) (by kernel_rfl) (val_at hp 28 43 (by kernel_rfl) rfl)), ?_⟩
        unfold Oper.wp
        go_simp
        refine (num_any (3) (i64_mk (by omega)) wx).mono ?_
        rintro e w2 ⟨v, rfl, hv, hb2⟩
        exact Stepped.at rfl hd hb2 (FD_mk (.tm (tNum 3)) rfl hv)
      · intro a wx hb hd hs ho hp
        refine ⟨wanted_of rfl (yielded_at (k := 28) (d := 43) (by kernel_rfl) (val_at hp 28 43 (by kernel_rfl) rfl)), ?_⟩
        obtain ⟨x0, x1, x2, x3, xe, xt⟩ := tm_at hp 32 47 t12 (by kernel_rfl) rfl
        obtain ⟨y0, y1, y2, y3, ye, yt⟩ := tm_at hp 33 48 (tNum 3) (by kernel_rfl) rfl
        have xs := slot_of (hs.trans hT) (by decide) xe
        have ys := slot_of (hs.trans hT) (by decide) ye
        unfold Oper.wp
        go_simp
        have hA : Below wx.heap.size wx (wx.alloc (.cells #[x0, x1, x2, x3, y0, y1, y2, y3] 24)) := (Below.refl _ _).alloc (Nat.le_refl _) _
        exact Stepped.at rfl hd hA (FD_mk (.sl [t12, tNum 3]) rfl (sl_two (World.alloc_heap_new _ _) ((xt.below hA).mono hA.size) ((yt.below hA).mono hA.size)))
      · intro a wx hb hd hs ho hp
        refine ⟨wanted_of rfl (yielded_at (k := 28) (d := 43) (by kernel_rfl) (val_at hp 28 43 (by kernel_rfl) rfl)), ?_⟩
        obtain ⟨xa, xc, xe, xl, xr⟩ := sl_at hp 34 49 ([t12, tNum 3]) (by kernel_rfl) rfl
        unfold Oper.wp
        go_simp
        refine (op_any ⟨#[45]⟩ (one_small 45) [t12, tNum 3] _ wx ⟨_, _, rfl, xl, xr⟩).mono ?_
        rintro e w2 ⟨v, rfl, hv, hb2⟩
        exact Stepped.at rfl hd hb2 (FD_mk (.tm t123) rfl hv)
      · intro a wx hb hd hs ho hp
        refine ⟨wanted_of rfl (yielded_at (k := 28) (d := 43) (by kernel_rfl) (val_at hp 28 43 (by kernel_rfl) rfl)), ?_⟩
        obtain ⟨x0, x1, x2, x3, xe, xt⟩ := tm_at hp 35 50 t123 (by kernel_rfl) rfl
        unfold Oper.wp
        go_simp
        refine (string_any t123 _ _ _ _ wx xt t123_dep (fun _ => t123_len) (Nat.lt_of_lt_of_le hgl hb.size) (tab_below hb hgl htab)).mono ?_
        rintro e w2 ⟨rfl, hb2⟩
        exact Stepped.at rfl hd hb2 (FD_mk (.val (.string ⟨#[49,45,50,45,51]⟩)) rfl (congrArg Value.string t123_str))
      · intro a wx hb hd hs ho hp
        refine ⟨wanted_of rfl (yielded_at (k := 28) (d := 43) (by kernel_rfl) (val_at hp 28 43 (by kernel_rfl) rfl)), ?_⟩
        have h51 : a.tmps.getD 51 undef = .string ⟨#[49,45,50,45,51]⟩ := val_at hp 36 51 (by kernel_rfl) rfl
        unfold Oper.wp
        go_simp
        exact Stepped.at rfl hd (Below.refl _ _) (FD_mk (.val (.bool true)) rfl rfl)
      · intro a wx hb hd hs ho hp
        refine ⟨rfl, ?_⟩
        have h43 : a.tmps.getD 43 undef = .bool true := val_at hp 28 43 (by kernel_rfl) rfl
        have h52 : a.tmps.getD 52 undef = .bool true := val_at hp 37 52 (by kernel_rfl) rfl
        unfold Oper.wp
        go_simp
        exact Stepped.at rfl hd (Below.refl _ _) (FD_mk (.val (.bool true)) rfl rfl)
      · intro a wx hb hd hs ho hp
        refine ⟨rfl, ?_⟩
        have h53 : a.tmps.getD 53 undef = .bool true := val_at hp 38 53 (by kernel_rfl) rfl
        unfold Oper.wp
        go_simp
        exact Stepped.at rfl hd (Below.refl _ _) (FD_mk (.val (.bool true)) rfl rfl)
      · intro a wx hb hd hs ho hp
        refine ⟨wanted_of rfl (yielded_at (k := 39) (d := 54) (by kernel_rfl) (val_at hp 39 54 (by kernel_rfl) rfl)), ?_⟩
        unfold Oper.wp
        go_simp
        refine (num_any (1) (i64_mk (by omega)) wx).mono ?_
        rintro e w2 ⟨v, rfl, hv, hb2⟩
        exact Stepped.at rfl hd hb2 (FD_mk (.tm (tNum 1)) rfl hv)
      · intro a wx hb hd hs ho hp
        refine ⟨wanted_of rfl (yielded_at (k := 39) (d := 54) (by kernel_rfl) (val_at hp 39 54 (by kernel_rfl) rfl)), ?_⟩
        unfold Oper.wp
        go_simp
        refine (num_any (2) (i64_mk (by omega)) wx).mono ?_
        rintro e w2 ⟨v, rfl, hv, hb2⟩
        exact Stepped.at rfl hd hb2 (FD_mk (.tm (tNum 2)) rfl hv)
      · intro a wx hb hd hs ho hp
        refine ⟨wanted_of rfl (yielded_at (k := 39) (d := 54) (by kernel_rfl) (val_at hp 39 54 (by kernel_rfl) rfl)), ?_⟩
        unfold Oper.wp
        go_simp
        refine (num_any (3) (i64_mk (by omega)) wx).mono ?_
        rintro e w2 ⟨v, rfl, hv, hb2⟩
        exact Stepped.at rfl hd hb2 (FD_mk (.tm (tNum 3)) rfl hv)
      · intro a wx hb hd hs ho hp
        refine ⟨wanted_of rfl (yielded_at (k := 39) (d := 54) (by kernel_rfl) (val_at hp 39 54 (by kernel_rfl) rfl)), ?_⟩
        obtain ⟨x0, x1, x2, x3, xe, xt⟩ := tm_at hp 41 56 (tNum 2) (by kernel_rfl) rfl
        obtain ⟨y0, y1, y2, y3, ye, yt⟩ := tm_at hp 42 57 (tNum 3) (by kernel_rfl) rfl
        have xs := slot_of (hs.trans hT) (by decide) xe
        have ys := slot_of (hs.trans hT) (by decide) ye
        unfold Oper.wp
        go_simp
        have hA : Below wx.heap.size wx (wx.alloc (.cells #[x0, x1, x2, x3, y0, y1, y2, y3] 24)) := (Below.refl _ _).alloc (Nat.le_refl _) _
        exact Stepped.at rfl hd hA (FD_mk (.sl [tNum 2, tNum 3]) rfl (sl_two (World.alloc_heap_new _ _) ((xt.below hA).mono hA.size) ((yt.below hA).mono hA.size)))
      · intro a wx hb hd hs ho hp
        refine ⟨wanted_of rfl (yielded_at (k := 39) (d := 54) (by kernel_rfl) (val_at hp 39 54 (by kernel_rfl) rfl)), ?_⟩
        obtain ⟨xa, xc, xe, xl, xr⟩ := sl_at hp 43 58 ([tNum 2, tNum 3]) (by kernel_rfl) rfl
        unfold Oper.wp
        go_simp
        refine (op_any ⟨#[45]⟩ (one_small 45) [tNum 2, tNum 3] _ wx ⟨_, _, rfl, xl, xr⟩).mono ?_
        rintro e w2 ⟨v, rfl, hv, hb2⟩
        exact Stepped.at rfl hd hb2 (FD_mk (.tm t23) rfl hv)
      · intro a wx hb hd hs ho hp
        refine ⟨wanted_of rfl (yielded_at (k := 39) (d := 54) (by kernel_rfl) (val_at hp 39 54 (by kernel_rfl) rfl)), ?_⟩
        obtain ⟨x0, x1, x2, x3, xe, xt⟩ := tm_at hp 40 55 (tNum 1) (by kernel_rfl) rfl
        obtain ⟨y0, y1, y2, y3, ye, yt⟩ := tm_at hp 44 59 t23 (by kernel_rfl) rfl
        have xs := slot_of (hs.trans hT) (by decide) xe
        have ys := slot_of (hs.trans hT) (by decide) ye
        unfold Oper.wp
        go_simp
        have hA : Below wx.heap.size wx (wx.alloc (.cells #[x0, x1, x2, x3, y0, y1, y2, y3] 24)) := (Below.refl _ _).alloc (Nat.le_refl _) _
        exact Stepped.at rfl hd hA (FD_mk (.sl [tNum 1, t23]) rfl (sl_two (World.alloc_heap_new _ _) ((xt.below hA).mono hA.size) ((yt.below hA).mono hA.size)))
      · intro a wx hb hd hs ho hp
        refine ⟨wanted_of rfl (yielded_at (k := 39) (d := 54) (by kernel_rfl) (val_at hp 39 54 (by kernel_rfl) rfl)), ?_⟩
        obtain ⟨xa, xc, xe, xl, xr⟩ := sl_at hp 45 60 ([tNum 1, t23]) (by kernel_rfl) rfl
        unfold Oper.wp
        go_simp
        refine (op_any ⟨#[45]⟩ (one_small 45) [tNum 1, t23] _ wx ⟨_, _, rfl, xl, xr⟩).mono ?_
        rintro e w2 ⟨v, rfl, hv, hb2⟩
        exact Stepped.at rfl hd hb2 (FD_mk (.tm t1_23) rfl hv)
      · intro a wx hb hd hs ho hp
        refine ⟨wanted_of rfl (yielded_at (k := 39) (d := 54) (by kernel_rfl) (val_at hp 39 54 (by kernel_rfl) rfl)), ?_⟩
        obtain ⟨x0, x1, x2, x3, xe, xt⟩ := tm_at hp 46 61 t1_23 (by kernel_rfl) rfl
        unfold Oper.wp
        go_simp
        refine (string_any t1_23 _ _ _ _ wx xt t1_23_dep (fun _ => t1_23_len) (Nat.lt_of_lt_of_le hgl hb.size) (tab_below hb hgl htab)).mono ?_
        rintro e w2 ⟨rfl, hb2⟩
        exact Stepped.at rfl hd hb2 (FD_mk (.val (.string ⟨#[49,45,40,50,45,51,41]⟩)) rfl (congrArg Value.string t1_23_str))
      · intro a wx hb hd hs ho hp
        refine ⟨wanted_of rfl (yielded_at (k := 39) (d := 54) (by kernel_rfl) (val_at hp 39 54 (by kernel_rfl) rfl)), ?_⟩
        have h62 : a.tmps.getD 62 undef = .string ⟨#[49,45,40,50,45,51,41]⟩ := val_at hp 47 62 (by kernel_rfl) rfl
        unfold Oper.wp
        go_simp
        exact Stepped.at rfl hd (Below.refl _ _) (FD_mk (.val (.bool true)) rfl rfl)
      · intro a wx hb hd hs ho hp
        refine ⟨rfl, ?_⟩
        have h54 : a.tmps.getD 54 undef = .bool true := val_at hp 39 54 (by kernel_rfl) rfl
        have h63 : a.tmps.getD 63 undef = .bool true := val_at hp 48 63 (by kernel_rfl) rfl
        unfold Oper.wp
        go_simp
        exact Stepped.at rfl hd (Below.refl _ _) (FD_mk (.val (.bool true)) rfl rfl)
      · intro a wx hb hd hs ho hp
        refine ⟨rfl, ?_⟩
        have h64 : a.tmps.getD 64 undef = .bool true := val_at hp 49 64 (by kernel_rfl) rfl
        unfold Oper.wp
        go_simp
        exact Stepped.at rfl hd (Below.refl _ _) (FD_mk (.val (.bool true)) rfl rfl)
      · intro a wx hb hd hs ho hp
        refine ⟨wanted_of rfl (yielded_at (k := 50) (d := 65) (by kernel_rfl) (val_at hp 50 65 (by kernel_rfl) rfl)), ?_⟩
        unfold Oper.wp
        go_simp
        refine (num_any (5) (i64_mk (by omega)) wx).mono ?_
        rintro e w2 ⟨v, rfl, hv, hb2⟩
        exact Stepped.at rfl hd hb2 (FD_mk (.tm (tNum 5)) rfl hv)
      · intro a wx hb hd hs ho hp
        refine ⟨wanted_of rfl (yielded_at (k := 50) (d := 65) (by kernel_rfl) (val_at hp 50 65 (by kernel_rfl) rfl)), ?_⟩
        obtain ⟨x0, x1, x2, x3, xe, xt⟩ := tm_at hp 51 66 (tNum 5) (by kernel_rfl) rfl
        have xs := slot_of (hs.trans hT) (by decide) xe
        unfold Oper.wp
        go_simp
        have hA : Below wx.heap.size wx (wx.alloc (.cells #[x0, x1, x2, x3] 24)) := (Below.refl _ _).alloc (Nat.le_refl _) _
        exact Stepped.at rfl hd hA (FD_mk (.sl [tNum 5]) rfl (sl_one (World.alloc_heap_new _ _) ((xt.below hA).mono hA.size)))
      · intro a wx hb hd hs ho hp
        refine ⟨wanted_of rfl (yielded_at (k := 50) (d := 65) (by kernel_rfl) (val_at hp 50 65 (by kernel_rfl) rfl)), ?_⟩
        obtain ⟨xa, xc, xe, xl, xr⟩ := sl_at hp 52 67 ([tNum 5]) (by kernel_rfl) rfl
        unfold Oper.wp
        go_simp
        refine (op_any ⟨#[45]⟩ (one_small 45) [tNum 5] _ wx ⟨_, _, rfl, xl, xr⟩).mono ?_
        rintro e w2 ⟨v, rfl, hv, hb2⟩
        exact Stepped.at rfl hd hb2 (FD_mk (.tm tm5) rfl hv)
      · intro a wx hb hd hs ho hp
        refine ⟨wanted_of rfl (yielded_at (k := 50) (d := 65) (by kernel_rfl) (val_at hp 50 65 (by kernel_rfl) rfl)), ?_⟩
        obtain ⟨x0, x1, x2, x3, xe, xt⟩ := tm_at hp 53 68 tm5 (by kernel_rfl) rfl
        unfold Oper.wp
        go_simp
        refine (string_any tm5 _ _ _ _ wx xt tm5_dep (fun _ => tm5_len) (Nat.lt_of_lt_of_le hgl hb.size) (tab_below hb hgl htab)).mono ?_
        rintro e w2 ⟨rfl, hb2⟩
        exact Stepped.at rfl hd hb2 (FD_mk (.val (.string ⟨#[45,40,53,41]⟩)) rfl (congrArg Value.string tm5_str))
      · intro a wx hb hd hs ho hp
        refine ⟨wanted_of rfl (yielded_at (k := 50) (d := 65) (by kernel_rfl) (val_at hp 50 65 (by kernel_rfl) rfl)), ?_⟩
        have h69 : a.tmps.getD 69 undef = .string ⟨#[45,40,53,41]⟩ := val_at hp 54 69 (by kernel_rfl) rfl
        unfold Oper.wp
        go_simp
        exact Stepped.at rfl hd (Below.refl _ _) (FD_mk (.val (.bool true)) rfl rfl)
      · intro a wx hb hd hs ho hp
        refine ⟨rfl, ?_⟩
        have h65 : a.tmps.getD 65 undef = .bool true := val_at hp 50 65 (by kernel_rfl) rfl
        have h70 : a.tmps.getD 70 undef = .bool true := val_at hp 55 70 (by kernel_rfl) rfl
        unfold Oper.wp
        go_simp
        exact Stepped.at rfl hd (Below.refl _ _) (FD_mk (.val (.bool true)) rfl rfl)
      · intro a wx hb hd hs ho hp
        refine ⟨rfl, ?_⟩
        have h71 : a.tmps.getD 71 undef = .bool true := val_at hp 56 71 (by kernel_rfl) rfl
        unfold Oper.wp
        go_simp
        exact Stepped.at rfl hd (Below.refl _ _) (FD_mk (.val (.bool true)) rfl rfl)
      · intro a wx hb hd hs ho hp
        refine ⟨wanted_of rfl (yielded_at (k := 57) (d := 72) (by kernel_rfl) (val_at hp 57 72 (by kernel_rfl) rfl)), ?_⟩
        unfold Oper.wp
        go_simp
        refine (num_any (-5) (i64_mk (by omega)) wx).mono ?_
        rintro e w2 ⟨v, rfl, hv, hb2⟩
        exact Stepped.at rfl hd hb2 (FD_mk (.tm (tNum (-5))) rfl hv)
      · intro a wx hb hd hs ho hp
        refine ⟨wanted_of rfl (yielded_at (k := 57) (d := 72) (by kernel_rfl) (val_at hp 57 72 (by kernel_rfl) rfl)), ?_⟩
        obtain ⟨x0, x1, x2, x3, xe, xt⟩ := tm_at hp 58 73 (tNum (-5)) (by kernel_rfl) rfl
        unfold Oper.wp
        go_simp
        refine (string_any (tNum (-5)) _ _ _ _ wx xt n5_dep (fun _ => n5_len) (Nat.lt_of_lt_of_le hgl hb.size) (tab_below hb hgl htab)).mono ?_
        rintro e w2 ⟨rfl, hb2⟩
        exact Stepped.at rfl hd hb2 (FD_mk (.val (.string ⟨#[45,53]⟩)) rfl (congrArg Value.string n5_str))
      · intro a wx hb hd hs ho hp
        refine ⟨wanted_of rfl (yielded_at (k := 57) (d := 72) (by kernel_rfl) (val_at hp 57 72 (by kernel_rfl) rfl)), ?_⟩
        have h74 : a.tmps.getD 74 undef = .string ⟨#[45,53]⟩ := val_at hp 59 74 (by kernel_rfl) rfl
        unfold Oper.wp
        go_simp
        exact Stepped.at rfl hd (Below.refl _ _) (FD_mk (.val (.bool true)) rfl rfl)
      · intro a wx hb hd hs ho hp
        refine ⟨rfl, ?_⟩
        have h72 : a.tmps.getD 72 undef = .bool true := val_at hp 57 72 (by kernel_rfl) rfl
        have h75 : a.tmps.getD 75 undef = .bool true := val_at hp 60 75 (by kernel_rfl) rfl
        unfold Oper.wp
        go_simp
        exact Stepped.at rfl hd (Below.refl _ _) (FD_mk (.val (.bool true)) rfl rfl)
      · intro a wx hb hd hs ho hp
        refine ⟨rfl, ?_⟩
        have h76 : a.tmps.getD 76 undef = .bool true := val_at hp 61 76 (by kernel_rfl) rfl
        unfold Oper.wp
        go_simp
        exact Stepped.at rfl hd (Below.refl _ _) (FD_mk (.val (.bool true)) rfl rfl)
      · intro a wx hb hd hs ho hp
        refine ⟨wanted_of rfl (yielded_at (k := 62) (d := 77) (by kernel_rfl) (val_at hp 62 77 (by kernel_rfl) rfl)), ?_⟩
        unfold Oper.wp
        go_simp
        refine (num_any (-1) (i64_mk (by omega)) wx).mono ?_
        rintro e w2 ⟨v, rfl, hv, hb2⟩
        exact Stepped.at rfl hd hb2 (FD_mk (.tm (tNum (-1))) rfl hv)
      · intro a wx hb hd hs ho hp
        refine ⟨wanted_of rfl (yielded_at (k := 62) (d := 77) (by kernel_rfl) (val_at hp 62 77 (by kernel_rfl) rfl)), ?_⟩
        unfold Oper.wp
        go_simp
        refine (num_any (7) (i64_mk (by omega)) wx).mono ?_
        rintro e w2 ⟨v, rfl, hv, hb2⟩
        exact Stepped.at rfl hd hb2 (FD_mk (.tm (tNum 7)) rfl hv)
      · intro a wx hb hd hs ho hp
        refine ⟨wanted_of rfl (yielded_at (k := 62) (d := 77) (by kernel_rfl) (val_at hp 62 77 (by kernel_rfl) rfl)), ?_⟩
        have h1 : a.tmps.getD 3 undef = _ := (ho 3 (by kernel_rfl)).trans s3
        have hx := HasRow.grow hr3 hb
        have x0 := cells_at hx 0 _ rfl
        have x1 := cells_at hx 1 _ rfl
        have x2 := cells_at hx 2 _ rfl
        have x3 := cells_at hx 3 _ rfl
        unfold Oper.wp
        go_simp
        exact Stepped.at rfl hd (Below.refl _ _) (FD_mk (.tm ta) rfl ⟨_, _, _, _, rfl, sym_holds⟩)
      · intro a wx hb hd hs ho hp
        refine ⟨wanted_of rfl (yielded_at (k := 62) (d := 77) (by kernel_rfl) (val_at hp 62 77 (by kernel_rfl) rfl)), ?_⟩
        have h1 : a.tmps.getD 4 undef = _ := (ho 4 (by kernel_rfl)).trans s4
        have hx := HasRow.grow hr4 hb
        have x0 := cells_at hx 0 _ rfl
        have x1 := cells_at hx 1 _ rfl
        have x2 := cells_at hx 2 _ rfl
        have x3 := cells_at hx 3 _ rfl
        unfold Oper.wp
        go_simp
        exact Stepped.at rfl hd (Below.refl _ _) (FD_mk (.tm tb) rfl ⟨_, _, _, _, rfl, sym_holds⟩)
      · intro a wx hb hd hs ho hp
        refine ⟨wanted_of rfl (yielded_at (k := 62) (d := 77) (by kernel_rfl) (val_at hp 62 77 (by kernel_rfl) rfl)), ?_⟩
        have h1 : a.tmps.getD 3 undef = _ := (ho 3 (by kernel_rfl)).trans s3
        have hx := HasRow.grow hr3 hb
        have x0 := cells_at hx 0 _ rfl
        have x1 := cells_at hx 1 _ rfl
        have x2 := cells_at hx 2 _ rfl
        have x3 := cells_at hx 3 _ rfl
        unfold Oper.wp
        go_simp
        exact Stepped.at rfl hd (Below.refl _ _) (FD_mk (.tm ta) rfl ⟨_, _, _, _, rfl, sym_holds⟩)
      · intro a wx hb hd hs ho hp
        refine ⟨wanted_of rfl (yielded_at (k := 62) (d := 77) (by kernel_rfl) (val_at hp 62 77 (by kernel_rfl) rfl)), ?_⟩
        obtain ⟨x0, x1, x2, x3, xe, xt⟩ := tm_at hp 67 82 ta (by kernel_rfl) rfl
        have xs := slot_of (hs.trans hT) (by decide) xe
        unfold Oper.wp
        go_simp
        have hA : Below wx.heap.size wx (wx.alloc (.cells #[x0, x1, x2, x3] 24)) := (Below.refl _ _).alloc (Nat.le_refl _) _
        exact Stepped.at rfl hd hA (FD_mk (.sl [ta]) rfl (sl_one (World.alloc_heap_new _ _) ((xt.below hA).mono hA.size)))
      · intro a wx hb hd hs ho hp
        refine ⟨wanted_of rfl (yielded_at (k := 62) (d := 77) (by kernel_rfl) (val_at hp 62 77 (by kernel_rfl) rfl)), ?_⟩
        obtain ⟨xa, xc, xe, xl, xr⟩ := sl_at hp 68 83 ([ta]) (by kernel_rfl) rfl
        unfold Oper.wp
        go_simp
        refine (fun_any ⟨#[102]⟩ (one_small 102) [ta] _ wx ⟨_, _, rfl, xl, xr⟩).mono ?_
        rintro e w2 ⟨v, rfl, hv, hb2⟩
        exact Stepped.at rfl hd hb2 (FD_mk (.tm (tFun ⟨#[102]⟩ [ta])) rfl hv)
      · intro a wx hb hd hs ho hp
        refine ⟨wanted_of rfl (yielded_at (k := 62) (d := 77) (by kernel_rfl) (val_at hp 62 77 (by kernel_rfl) rfl)), ?_⟩
        have h1 : a.tmps.getD 3 undef = _ := (ho 3 (by kernel_rfl)).trans s3
        have hx := HasRow.grow hr3 hb
        have x0 := cells_at hx 0 _ rfl
        have x1 := cells_at hx 1 _ rfl
        have x2 := cells_at hx 2 _ rfl
        have x3 := cells_at hx 3 _ rfl
        unfold Oper.wp
        go_simp
        exact Stepped.at rfl hd (Below.refl _ _) (FD_mk (.tm ta) rfl ⟨_, _, _, _, rfl, sym_holds⟩)
      · intro a wx hb hd hs ho hp
        refine ⟨wanted_of rfl (yielded_at (k := 62) (d := 77) (by kernel_rfl) (val_at hp 62 77 (by kernel_rfl) rfl)), ?_⟩
        obtain ⟨x0, x1, x2, x3, xe, xt⟩ := tm_at hp 70 85 ta (by kernel_rfl) rfl
        have xs := slot_of (hs.trans hT) (by decide) xe
        unfold Oper.wp
        go_simp
        have hA : Below wx.heap.size wx (wx.alloc (.cells #[x0, x1, x2, x3] 24)) := (Below.refl _ _).alloc (Nat.le_refl _) _
        exact Stepped.at rfl hd hA (FD_mk (.sl [ta]) rfl (sl_one (World.alloc_heap_new _ _) ((xt.below hA).mono hA.size)))
      · intro a wx hb hd hs ho hp
        refine ⟨wanted_of rfl (yielded_at (k := 62) (d := 77) (by kernel_rfl) (val_at hp 62 77 (by kernel_rfl) rfl)), ?_⟩
        obtain ⟨xa, xc, xe, xl, xr⟩ := sl_at hp 71 86 ([ta]) (by kernel_rfl) rfl
        unfold Oper.wp
        go_simp
        refine (fun_any ⟨#[103]⟩ (one_small 103) [ta] _ wx ⟨_, _, rfl, xl, xr⟩).mono ?_
        rintro e w2 ⟨v, rfl, hv, hb2⟩
        exact Stepped.at rfl hd hb2 (FD_mk (.tm (tFun ⟨#[103]⟩ [ta])) rfl hv)
      · intro a wx hb hd hs ho hp
        refine ⟨wanted_of rfl (yielded_at (k := 62) (d := 77) (by kernel_rfl) (val_at hp 62 77 (by kernel_rfl) rfl)), ?_⟩
        have h1 : a.tmps.getD 3 undef = _ := (ho 3 (by kernel_rfl)).trans s3
        have hx := HasRow.grow hr3 hb
        have x0 := cells_at hx 0 _ rfl
        have x1 := cells_at hx 1 _ rfl
        have x2 := cells_at hx 2 _ rfl
        have x3 := cells_at hx 3 _ rfl
        unfold Oper.wp
        go_simp
        exact Stepped.at rfl hd (Below.refl _ _) (FD_mk (.tm ta) rfl ⟨_, _, _, _, rfl, sym_holds⟩)
      · intro a wx hb hd hs ho hp
        refine ⟨wanted_of rfl (yielded_at (k := 62) (d := 77) (by kernel_rfl) (val_at hp 62 77 (by kernel_rfl) rfl)), ?_⟩
        have h1 : a.tmps.getD 3 undef = _ := (ho 3 (by kernel_rfl)).trans s3
        have hx := HasRow.grow hr3 hb
        have x0 := cells_at hx 0 _ rfl
        have x1 := cells_at hx 1 _ rfl
        have x2 := cells_at hx 2 _ rfl
        have x3 := cells_at hx 3 _ rfl
        unfold Oper.wp
        go_simp
        exact Stepped.at rfl hd (Below.refl _ _) (FD_mk (.tm ta) rfl ⟨_, _, _, _, rfl, sym_holds⟩)
      · intro a wx hb hd hs ho hp
        refine ⟨wanted_of rfl (yielded_at (k := 62) (d := 77) (by kernel_rfl) (val_at hp 62 77 (by kernel_rfl) rfl)), ?_⟩
        obtain ⟨x0, x1, x2, x3, xe, xt⟩ := tm_at hp 73 88 ta (by kernel_rfl) rfl
        obtain ⟨y0, y1, y2, y3, ye, yt⟩ := tm_at hp 74 89 ta (by kernel_rfl) rfl
        have xs := slot_of (hs.trans hT) (by decide) xe
        have ys := slot_of (hs.trans hT) (by decide) ye
        unfold Oper.wp
        go_simp
        have hA : Below wx.heap.size wx (wx.alloc (.cells #[x0, x1, x2, x3, y0, y1, y2, y3] 24)) := (Below.refl _ _).alloc (Nat.le_refl _) _
        exact Stepped.at rfl hd hA (FD_mk (.sl [ta, ta]) rfl (sl_two (World.alloc_heap_new _ _) ((xt.below hA).mono hA.size) ((yt.below hA).mono hA.size)))
      · intro a wx hb hd hs ho hp
        refine ⟨wanted_of rfl (yielded_at (k := 62) (d := 77) (by kernel_rfl) (val_at hp 62 77 (by kernel_rfl) rfl)), ?_⟩
        obtain ⟨xa, xc, xe, xl, xr⟩ := sl_at hp 75 90 ([ta, ta]) (by kernel_rfl) rfl
        unfold Oper.wp
        go_simp
        refine (fun_any ⟨#[102]⟩ (one_small 102) [ta, ta] _ wx ⟨_, _, rfl, xl, xr⟩).mono ?_
        rintro e w2 ⟨v, rfl, hv, hb2⟩
        exact Stepped.at rfl hd hb2 (FD_mk (.tm (tFun ⟨#[102]⟩ [ta, ta])) rfl hv)
      · intro a wx hb hd hs ho hp
        refine ⟨wanted_of rfl (yielded_at (k := 62) (d := 77) (by kernel_rfl) (val_at hp 62 77 (by kernel_rfl) rfl)), ?_⟩
        obtain ⟨x0, x1, x2, x3, xe, xt⟩ := tm_at hp 63 78 (tNum (-1)) (by kernel_rfl) rfl
        obtain ⟨y0, y1, y2, y3, ye, yt⟩ := tm_at hp 64 79 (tNum 7) (by kernel_rfl) rfl
        obtain ⟨z0, z1, z2, z3, ze, zt⟩ := tm_at hp 65 80 ta (by kernel_rfl) rfl
        obtain ⟨k0, k1, k2, k3, ke, kt⟩ := tm_at hp 66 81 tb (by kernel_rfl) rfl
        obtain ⟨m0, m1, m2, m3, me, mt⟩ := tm_at hp 69 84 (tFun ⟨#[102]⟩ [ta]) (by kernel_rfl) rfl
        obtain ⟨n0, n1, n2, n3, ne, nt⟩ := tm_at hp 72 87 (tFun ⟨#[103]⟩ [ta]) (by kernel_rfl) rfl
        obtain ⟨r0, r1, r2, r3, re, rt⟩ := tm_at hp 76 91 (tFun ⟨#[102]⟩ [ta, ta]) (by kernel_rfl) rfl
        have xs := slot_of (hs.trans hT) (by decide) xe
        have ys := slot_of (hs.trans hT) (by decide) ye
        have zs := slot_of (hs.trans hT) (by decide) ze
        have ks := slot_of (hs.trans hT) (by decide) ke
        have ms := slot_of (hs.trans hT) (by decide) me
        have ns := slot_of (hs.trans hT) (by decide) ne
        have rs := slot_of (hs.trans hT) (by decide) re
        unfold Oper.wp
        go_simp
        have hA : Below wx.heap.size wx (wx.alloc (.cells #[x0, x1, x2, x3, y0, y1, y2, y3, z0, z1, z2, z3, k0, k1, k2, k3, m0, m1, m2, m3, n0, n1, n2, n3, r0, r1, r2, r3] 24)) := (Below.refl _ _).alloc (Nat.le_refl _) _
        exact Stepped.at rfl hd hA (FD_mk (.sl tRise) rfl (sl_seven (World.alloc_heap_new _ _) ((xt.below hA).mono hA.size) ((yt.below hA).mono hA.size) ((zt.below hA).mono hA.size) ((kt.below hA).mono hA.size) ((mt.below hA).mono hA.size) ((nt.below hA).mono hA.size) ((rt.below hA).mono hA.size)))
      · intro a wx hb hd hs ho hp
        refine ⟨wanted_of rfl (yielded_at (k := 62) (d := 77) (by kernel_rfl) (val_at hp 62 77 (by kernel_rfl) rfl)), ?_⟩
        obtain ⟨xa, xc, xe, xl, xr⟩ := sl_at hp 77 92 tRise (by kernel_rfl) rfl
        unfold Oper.wp
        go_simp
        refine (rises_true tRise _ wx ⟨_, _, rfl, xl, xr⟩ rises_list).mono ?_
        rintro e w2 ⟨rfl, hb2⟩
        exact Stepped.at rfl hd hb2 (FD_mk (.val (.bool true)) rfl rfl)
      · intro a wx hb hd hs ho hp
        refine ⟨rfl, ?_⟩
        have h77 : a.tmps.getD 77 undef = .bool true := val_at hp 62 77 (by kernel_rfl) rfl
        have h93 : a.tmps.getD 93 undef = .bool true := val_at hp 78 93 (by kernel_rfl) rfl
        unfold Oper.wp
        go_simp
        exact Stepped.at rfl hd (Below.refl _ _) (FD_mk (.val (.bool true)) rfl rfl)
      · intro a wx hb hd hs ho hp
        refine ⟨rfl, ?_⟩
        have h94 : a.tmps.getD 94 undef = .bool true := val_at hp 79 94 (by kernel_rfl) rfl
        unfold Oper.wp
        go_simp
        exact Stepped.at rfl hd (Below.refl _ _) (FD_mk (.val (.bool true)) rfl rfl)
    /-END-STEPS-/
    · intro a wx hJ
      have h0 : a.tmps.getD 0 undef = .bool true := FD_at (.val (.bool true)) rfl (hJ.at_end 80 0 (by kernel_rfl))
      have hs0 : a.tmps.size = 95 := hJ.tmps.trans hT
      have hd0 : a.defers = [] := hJ.defers
      have hBx := hB4.trans (hJ.below.mono hB4.size)
      refine hK2 _ _ ?_
      clear hJ
      go_wp2_with fail
      refine bodyPost_ret (results_tmp rfl _ _ _) hd0 ?_
      rw [h0]
      exact ⟨rfl, hBx⟩
end Go.Proofs.YtikofhldihimaaaGreatDoor
