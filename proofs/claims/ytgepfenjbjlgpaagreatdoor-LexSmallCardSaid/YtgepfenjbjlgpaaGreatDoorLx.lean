/- Package lex: Lex. -/
import Derived.Test.YtgepfenjbjlgpaaGreatDoorLv
import Derived.Maps.AppendAt
import Derived.RangeFuncBox
import Derived.ProofKit
import Derived.Shelf.RegionOpen
namespace Go.Proofs.YtgepfenjbjlgpaaGreatDoor
open Go.RowKit Go.Shelf
attribute [local go_sem] Oper.semAt_some

def cellsT : List Tk → List Value
  | [] => []
  | x :: r => [.int .u8 x.k, .string x.t, .int .i64 x.a] ++ cellsT r
theorem cellsT_append (a b : List Tk) : cellsT (a ++ b) = cellsT a ++ cellsT b := by
  induction a with
  | nil => rfl
  | cons x r ih => simp only [List.cons_append, cellsT, ih, List.nil_append]
theorem cellsT_length (a : List Tk) : (cellsT a).length = a.length * 3 := by
  induction a with
  | nil => rfl
  | cons x r ih => simp only [cellsT, List.length_append, List.length_cons, List.length_nil, ih]; omega

def lexErr (s : ByteArray) : Option Tk := (lexAll s).find? fun x => x.e != 0
theorem lexErr_none {s : ByteArray} (h : ∀ x ∈ lexAll s, x.e = 0) : lexErr s = none := by
  unfold lexErr; rw [List.find?_eq_none]; intro x hx; simpa using h x hx
theorem lexErr_some {s : ByteArray} {ys : List Tk} {x : Tk} (h : ys ++ [x] <+: lexAll s) (hy : ∀ y ∈ ys, y.e = 0) (hx : x.e ≠ 0) : lexErr s = some x := by
  obtain ⟨r, hr⟩ := h
  unfold lexErr
  rw [← hr, List.find?_append, List.find?_append, List.find?_eq_none.2 (by intro y h; simpa using hy y h)]
  simp [hx]

/-- What Lex leaves. -/
def LexPost (s : ByteArray) (w : World) (e : Ending) (w' : World) : Prop :=
  Below w.heap.size w w' ∧ match lexErr s with
    | none => ∃ v, e = .returned (.tuple #[v, .int .i64 0, .int .i64 0]) ∧ w'.ownsRow w.heap.size 33 3 v (lexAll s).length (cellsT (lexAll s)) ∧ (v = .slice none 0 0 ↔ lexAll s = [])
    | some x => e = .returned (.tuple #[.slice none 0 0, .int .i64 x.a, .int .i64 x.e])

theorem KpS.of_grown {S Cb : Nat} {A B : World} {row : Option Nat} (hg : A.grownBy B row) (h : row ≠ some S ∧ row ≠ some Cb ∧ row ≠ some 5) : KpS S Cb A B :=
  ⟨hg.size, fun k hk o ho _ => (hg.block k (Array.getElem?_eq_some_iff.1 ho).1 (by rcases hk with rfl | rfl | rfl; exact fun e => h.1 e.symm; exact fun e => h.2.1 e.symm; exact fun e => h.2.2 e.symm)).trans ho⟩

theorem tokens_in (F : Fence) (n : Nat) (hf : F.fn 18) (hro : F.round = none) (S : Nat) (w : World) :
    CallsIn F n Tryz.prog 18 #[.pointer (some ⟨S, 0, none⟩)] w fun e w' => e = .returned (.func (.func 36) #[] #[.pointer (some ⟨w.heap.size, 0, none⟩)]) ∧ w' = w.alloc (.cells #[.pointer (some ⟨S, 0, none⟩)] 79) := by
  refine callsIn_of_wp Tryz.func18 rfl hf ?_ hro
  simp only [Tryz.ntmps18, List.size_toArray, List.length_cons, List.length_nil, Nat.reduceAdd, Nat.reduceSub, Array.replicate_succ, Array.replicate_zero, List.push_toArray, List.append_toArray, List.nil_append, List.cons_append]
  gi_wp2
  go_ret
  exact ⟨rfl, rfl⟩

theorem infoT : (Tryz.prog.info? 33).map (fun i => (i.zero, i.size, i.bytes)) = some (some (.agg #[.int .u8 0, .string ⟨#[]⟩, .int .i64 0]), 3, 32) := by kernel_rfl

theorem lexF_le (s : ByteArray) : ∀ (f a : Nat), a ≤ s.size → (lexF f s a).length ≤ s.size - a
  | 0, a, _ => by simp [lexF]
  | f + 1, a, h => by
    have h1 := skN_ge (s := s) (a := a) h
    unfold lexF
    split
    · rename_i hlt
      split
      · rename_i he
        have h2 := tokN_gt hlt he
        have h3 := (tokN_le hlt).2
        have := lexF_le s f _ h3
        simp only [List.length_cons]; omega
      · simp only [List.length_cons, List.length_nil]; omega
    · simp
theorem lexAll_le (s : ByteArray) : (lexAll s).length ≤ s.size := by
  have := lexF_le s (s.size + 1) 0 (Nat.zero_le _); unfold lexAll; omega
theorem ownsRow_lower {W : World} {b b' : Nat} {e : TypeId} {size n : Nat} {v : Value} {xs : List Value} (h : W.ownsRow b e size v n xs) (hb : b' ≤ b) : W.ownsRow b' e size v n xs := by
  refine ⟨h.1, ?_⟩
  rcases h.2 with h2 | ⟨g, cap, cur, h1, h2, h3⟩
  · exact .inl h2
  · exact .inr ⟨g, cap, cur, h1, Nat.le_trans hb h2, h3⟩
/-- The loop's invariant. -/
def LexI (w : World) (N B0 : Nat) (pre : List Tk) (W : World) : Prop :=
  (∃ v, Boxed W N 27 v ∧ W.ownsRow B0 33 3 v pre.length (cellsT pre) ∧ (v = .slice none 0 0 ↔ pre = [])) ∧
  (Boxed W (N + 1) 3 (.int .i64 0) ∧ Boxed W (N + 1 + 1) 28 (.int .i64 0)) ∧ Below N w W ∧ B0 ≤ W.heap.size ∧ ∀ x ∈ pre, x.e = 0
/-- Where the loop has been left. -/
def LexX (w : World) (N B0 : Nat) (c : Code) (pre : List Tk) (W : World) : Prop :=
  ∃ ys x, (pre = ys ++ [x] ∧ (∀ y ∈ ys, y.e = 0) ∧ x.e ≠ 0 ∧ c = .ret) ∧ (Boxed W N 27 (.slice none 0 0) ∧ Boxed W (N + 1) 3 (.int .i64 x.a) ∧ Boxed W (N + 1 + 1) 28 (.int .i64 x.e)) ∧ Below N w W ∧ B0 ≤ W.heap.size

theorem boxed_own' {β : Type} (B : Nat) (t : TypeId) (v : Value) : Own (fun (_ : β) W => Boxed W B t v) := boxed_own B t fun _ => v
theorem lexI_own (w : World) (N B0 B : Nat) (hN : N ≤ w.heap.size) (hB : N ≤ B) : OwnFrom B (LexI w N B0) :=
  OwnFrom.and (Own.from (holdsRow_own B0 N 27 33 3 (fun pre : List Tk => pre.length) cellsT fun pre v => v = .slice none 0 0 ↔ pre = []) _)
    (OwnFrom.and (OwnFrom.and (Own.from (boxed_own' _ _ _) _) (Own.from (boxed_own' _ _ _) _)) (OwnFrom.and (ownFrom_below hN hB) (OwnFrom.and (fun _ _ _ _ hs hg _ => Nat.le_trans hs hg.size) (ownFrom_pure _ fun pre : List Tk => ∀ x ∈ pre, x.e = 0))))
theorem lexX_own (w : World) (N B0 B : Nat) (hN : N ≤ w.heap.size) (hB : N ≤ B) (c : Code) : OwnFrom B (LexX w N B0 c) := by
  rintro pre X Y row ⟨ys, x, hp, ⟨h1, h2, h3⟩, h4, h5⟩ hg hr
  have hr' : ∀ r, row = some r → ∃ o : Obj, X.heap[r]? = some o ∧ o.isCells = false := fun r e => (hr r e).2
  exact ⟨ys, x, hp, ⟨boxed_own' _ _ _ pre X Y row h1 hg hr', boxed_own' _ _ _ pre X Y row h2 hg hr', boxed_own' _ _ _ pre X Y row h3 hg hr'⟩, ownFrom_below hN hB pre X Y row h4 hg hr, Nat.le_trans h5 hg.size⟩
theorem own_ne {W : World} {B0 S : Nat} {e : TypeId} {size k : Nat} {v : Value} {xs : List Value} (h : W.ownsRow B0 e size v k xs) (hS : S < B0) : v.ownBlock = none ∨ v.ownBlock ≠ some S := by
  rcases h.2 with ⟨rfl, _⟩ | ⟨g, cap, cur, rfl, hg, _⟩
  · exact .inl rfl
  · refine .inr fun e' => ?_
    have : g = S := by simpa [Value.ownBlock] using e'
    omega
theorem own_ne' {W : World} {B0 S : Nat} {e : TypeId} {size k : Nat} {v : Value} {xs : List Value} (h : W.ownsRow B0 e size v k xs) (hS : S < B0) : v.ownBlock ≠ some S := by
  rcases own_ne h hS with h1 | h1
  · rw [h1]; simp
  · exact h1
theorem lexI_bears (w : World) (N B0 S : Nat) (s : ByteArray) (hS : S < B0) (hN : N + 1 + 1 < S) : Bears (AbS S s) (LexI w N B0) := by
  rintro pre X Y ⟨⟨v, h1, h2, h3⟩, ⟨h4, h5⟩, h6, h7, h8⟩ ⟨hg, j, hsc⟩
  have hl := hsc.lt
  exact ⟨⟨v, h1.kept hg (by simp; omega), h2.kept hg (own_ne h2 hS), h3⟩, ⟨h4.kept hg (by simp; omega), h5.kept hg (by simp; omega)⟩, h6.grown hg (by omega) (fun k e => by cases e; omega), Nat.le_trans h7 hg.size, h8⟩
theorem lexX_bears (w : World) (N B0 S : Nat) (s : ByteArray) (_ : S < B0) (hN : N + 1 + 1 < S) (c : Code) : Bears (AbS S s) (LexX w N B0 c) := by
  rintro pre X Y ⟨ys, x, hp, ⟨h1, h2, h3⟩, h6, h7⟩ ⟨hg, j, hsc⟩
  have hl := hsc.lt
  exact ⟨ys, x, hp, ⟨h1.kept hg (by simp; omega), h2.kept hg (by simp; omega), h3.kept hg (by simp; omega)⟩, h6.grown hg (by omega) (fun k e => by cases e; omega), Nat.le_trans h7 hg.size⟩

theorem lex_world (s : ByteArray) (w : World) : ∃ W0, ((((w.alloc (.cells #[.slice none 0 0] 27)).alloc (.cells #[.int .i64 0] 3)).alloc (.cells #[.int .i64 0] 28)).alloc (.cells #[.string s, .int .i64 0] 50)).alloc (.cells #[.pointer (some ⟨w.heap.size + 1 + 1 + 1, 0, none⟩)] 79) = W0 ∧
    W0.heap.size = w.heap.size + 5 ∧ Below w.heap.size w W0 ∧ Boxed W0 w.heap.size 27 (.slice none 0 0) ∧ Boxed W0 (w.heap.size + 1) 3 (.int .i64 0) ∧ Boxed W0 (w.heap.size + 1 + 1) 28 (.int .i64 0) ∧
    Scn (w.heap.size + 1 + 1 + 1) s 0 W0 ∧ CapS (w.heap.size + 1 + 1 + 1) (w.heap.size + 1 + 1 + 1 + 1) W0 := by
  have h1 := Boxed.new (w.alloc (.cells #[.slice none 0 0] 27)) 3 (.int .i64 0)
  have h2 := Boxed.new ((w.alloc (.cells #[.slice none 0 0] 27)).alloc (.cells #[.int .i64 0] 3)) 28 (.int .i64 0)
  have h3 := World.alloc_heap_new (((w.alloc (.cells #[.slice none 0 0] 27)).alloc (.cells #[.int .i64 0] 3)).alloc (.cells #[.int .i64 0] 28)) (.cells #[.string s, .int .i64 0] 50)
  have h4 := World.alloc_heap_new ((((w.alloc (.cells #[.slice none 0 0] 27)).alloc (.cells #[.int .i64 0] 3)).alloc (.cells #[.int .i64 0] 28)).alloc (.cells #[.string s, .int .i64 0] 50)) (.cells #[.pointer (some ⟨w.heap.size + 1 + 1 + 1, 0, none⟩)] 79)
  simp only [World.size_alloc] at h1 h2 h3 h4
  refine ⟨_, rfl, by simp, (((((Below.refl _ w).alloc (Nat.le_refl _) _).alloc (by simp) _).alloc (by simp; omega) _).alloc (by simp; omega) _).alloc (by simp; omega) _,
    ((((Boxed.new w _ _).alloc _).alloc _).alloc _).alloc _, ((h1.alloc _).alloc _).alloc _, (h2.alloc _).alloc _, (Below.heap_alloc _ _ _ (by simp)).trans h3, h4⟩

set_option maxRecDepth 100000 in
set_option maxHeartbeats 4000000 in
theorem lex_in (s : ByteArray) (w : World) (hs : s.size ≤ 32768) (hE : ErrOk w) :
    CallsIn Fence.wide 9 Tryz.prog 9 #[.string s] w (LexPost s w) := by
  have hdd : ∀ k : Nat, (Fence.wide.depth.isSome = true → 1 ≤ k) := fun k h => by cases h
  have hEg : 5 < w.heap.size := by
    obtain ⟨te, pe, hc⟩ := hE
    apply Decidable.byContradiction; intro hn
    have : w.heap[5]? = none := Array.getElem?_eq_none (by omega)
    simp [World.cell?, this] at hc
  have HE := Lib.hid hE
  have HS := Lib.hid hs
  have hd : decide ((32768 : Int) < (s.size : Int)) = false := by simp; omega
  clear hE hs
  refine callsIn_of_wp_marks Tryz.func9 rfl trivial ?_ rfl
  simp only [Tryz.ntmps9, List.size_toArray, List.length_cons, List.length_nil, Nat.reduceAdd, Nat.reduceSub, Array.replicate_succ, Array.replicate_zero, List.push_toArray, List.append_toArray, List.nil_append, List.cons_append]
  gi_wp2_with (refine ⟨trivial, ?_⟩; gi_at_call 18; refine (tokens_in Fence.wide _ trivial rfl _ _).mono ?_; rintro e w' ⟨rfl, rfl⟩)
  obtain ⟨W0, hW0, hsz, hb0, b0, b1, b2, hsc, hcp⟩ := lex_world s w
  rw [hW0]
  clear hW0
  have hsl := HS.out
  obtain ⟨S, hS⟩ : ∃ S, w.heap.size + 1 + 1 + 1 = S := ⟨_, rfl⟩
  obtain ⟨Cb, hC⟩ : ∃ Cb, S + 1 = Cb := ⟨_, rfl⟩
  rw [hS] at hsc hcp ⊢
  rw [hC] at hcp ⊢
  have hgS : 5 ≠ S := by omega
  have hCS : Cb ≠ S := by omega
  have hE0 : ErrOk W0 := HE.out.grown (grown_below hb0) hgS
  refine range_own rfl (by omega) (gf := 36) (lb := #[.pointer (some ⟨Cb, 0, none⟩)]) rfl trivial (enters_of Tryz.func36 (by kernel_rfl) rfl)
    (scan_stops s S Cb _ W0 (by omega) hsc hcp hE0 hgS hCS)
    (fun A B l o hab hl ho => by
      obtain ⟨hg, jj, hscA⟩ := hab
      refine (hg.block l (Array.getElem?_eq_some_iff.1 hl).1 (fun e => ?_)).trans hl
      obtain rfl : l = S := by cases e; rfl
      rw [show A.heap[l]? = _ from hscA] at hl; cases hl; cases ho)
    KpS.trans
    (fun W l o o' hl h hc => ⟨by simp, fun k hk ob h1 h2 => by
      by_cases e : k = l
      · subst e; rw [h] at h1; cases h1; rw [hc] at h2; cases h2
      · rw [World.putObj_heap_other e]; exact h1⟩)
    (fun _ => rfl)
    (LexI w w.heap.size W0.heap.size) (LexX w w.heap.size W0.heap.size) (lexI_own _ _ _ _ (Nat.le_refl _) (by omega)) (lexX_own _ _ _ _ (Nat.le_refl _) (by omega)) (lexI_bears _ _ _ _ _ (by omega) (by omega)) (lexX_bears _ _ _ _ _ (by omega) (by omega))
    ⟨⟨_, b0, ⟨rfl, .inl ⟨rfl, rfl⟩⟩, by simp⟩, ⟨b1, b2⟩, hb0, Nat.le_refl _, by simp⟩
    (fun x a' W => ∃ Bx, W0.heap.size ≤ Bx ∧ TokIn Bx x.k x.t x.a W ∧
      a' = { tmps := #[Value.string s, undef, Value.pointer (some { block := w.heap.size, off := 0 }),
          Value.pointer (some { block := w.heap.size + 1, off := 0 }),
          Value.pointer (some { block := w.heap.size + 1 + 1, off := 0 }),
          Value.pointer (some { block := S, off := 0 }), Value.pointer (some { block := Bx, off := 0 }), Value.int IntKind.i64 x.e, Value.string s,
          Value.int IntKind.i64 ↑s.size, Value.bool false, Value.string s,
          Value.agg #[Value.string s, Value.int IntKind.i64 0], Value.agg #[Value.string s, Value.int IntKind.i64 0],
          Value.func (Fn.func 36) #[] #[Value.pointer (some { block := Cb, off := 0 })], x.agg, Value.int IntKind.i64 x.e,
          undef, undef, undef, undef, undef, undef, undef, undef, undef, undef], defers := [] })
    (fun x a' st X Y row hs hg hr => by
      obtain ⟨Bx, h1, h2, h3⟩ := hs
      refine ⟨Bx, h1, (hg.block Bx h2.lt (fun e => ?_)).trans h2, h3⟩
      obtain ⟨_, o, ho, hc⟩ := hr Bx e.symm
      rw [show X.heap[Bx]? = _ from h2] at ho; cases ho; cases hc) ?assign ?body ?done ?stop
  case assign =>
    rintro l pre ⟨k, t, a, er⟩ W K hi hK
    have hB := hi.2.2.2.1
    have hK' := hK _ _ ((KeepsOthers.alloc W (.cells #[.int .u8 k, .string t, .int .i64 a] 33)).from _) (KpS.of_grown (World.grownBy_alloc W _ none) (by simp)) (lexI_own w _ _ W0.heap.size (Nat.le_refl _) (by omega) |>.alloc _ hi) ⟨W.heap.size, hB, World.alloc_heap_new _ _, rfl⟩
    clear hK
    have HK := Lib.hid hK'; clear hK' hi hB
    simp only [Tk.val, Tk.agg]
    gi_wp2
    exact HK.out
  case body =>
    rintro l pre ⟨k, t, a, er⟩ a' W hl hrec ⟨⟨v, hv, hrow, hnil⟩, ⟨hb1, hb2⟩, hB, hz, hall⟩ ⟨Bx, hBx, htok, rfl⟩ hlt
    have htok0 := htok
    have t0 : W.cell? ⟨Bx, 0, none⟩ = some (.int .u8 k) := cells_at htok 0 _ rfl
    have t1 : W.cell? ⟨Bx, 1, none⟩ = some (.string t) := cells_at htok 1 _ rfl
    have t2 : W.cell? ⟨Bx, 2, none⟩ = some (.int .i64 a) := cells_at htok 2 _ rfl
    have vc := hv.cell
    have v1 := hb1.cell
    have v2 := hb2.cell
    have g0 := hv.frozen
    have g1 := hb1.frozen
    have g2 := hb2.frozen
    have HALL := Lib.hid hall
    have HNIL := Lib.hid hnil
    have HROW := Lib.hid hrow
    have HBB := Lib.hid hB
    clear htok htok0 hall hnil hrow hB
    by_cases her : er = 0
    · subst her
      obtain ⟨i0, hi, hz0, hz1, hz2⟩ := info_parts infoT
      have hlen : pre.length + 1 ≤ 32768 := by
        have := lexAll_le s; omega
      have hwz : W0.heap.size ≤ (W.alloc (.cells #[.int .u8 k, .string t, .int .i64 a] 33)).heap.size := by simp; omega
      gi_wp2_with (gi_at_builtin; refine wpListIn_append_own _ rfl _ _ 27 rfl W0.heap.size 33 i0 _ 3 32 Tryz.underlying27 hi hz0 hz1 hz2 rfl (by decide) _ _ _ rfl (HROW.out.alloc _) ⟨W.heap.size, 0, none⟩ 1 1 [.int .u8 k, .string t, .int .i64 a] rfl rfl ?c1 ?c2 ?c3 ?c4 hwz ?_)
      case c1 =>
        intro jj u hu
        rcases jj with _ | _ | _ | jj
        · cases hu; exact cells_at (World.alloc_heap_new W _) 0 _ rfl
        · cases hu; exact cells_at (World.alloc_heap_new W _) 1 _ rfl
        · cases hu; exact cells_at (World.alloc_heap_new W _) 2 _ rfl
        · simp at hu
      case c2 => simp [Value.oneCell']
      case c3 => unfold maxLen; omega
      case c4 => omega
      intro v' w1 hown' hgrow _
      have hv1 : Boxed w1 w.heap.size 27 v := (hv.alloc _).kept hgrow (hv.not_row (by decide) HROW.out)
      obtain ⟨gg, cap', rfl⟩ := ownsRow_succ hown'
      have hc1 := hv1.cell
      have hf1 := hv1.frozen
      have HO := Lib.hid hown'
      have HG := Lib.hid hgrow
      clear hown' hgrow vc g0
      gi_wp2
      have hne := fun B (h : B < W0.heap.size) => own_ne' HROW.out h
      have hgw : W.grownBy w1 v.ownBlock := ⟨HG.out.os, HG.out.tape, HG.out.output, Nat.le_trans (by simp) HG.out.size, fun kk hk hr => (HG.out.block kk (by simp; omega) hr).trans (Below.heap_alloc _ _ _ hk)⟩
      have hk1 : KpS S Cb W w1 := KpS.of_grown hgw ⟨hne S (by omega), hne Cb (by omega), hne _ (by omega)⟩
      have hg2 := grown_set w1 w.heap.size 0 (.slice (some ⟨gg, 0, none⟩) (pre.length + 1) cap')
      refine ⟨?_, hk1.trans (KpS.of_grown hg2 ⟨by simp; omega, by simp; omega, by simp; omega⟩), ⟨_, hv1.set _, ?_, ?_⟩, ⟨?_, ?_⟩, ?_, ?_, ?_⟩
      · exact ((KeepsOthers.alloc W _).trans (KeepsOthers.of_grownBy HG.out fun j o ej hj => by
          rcases (HROW.out.alloc _).2 with ⟨rfl, _⟩ | ⟨g, cap, cur, rfl, _, hgb, _⟩
          · simp [Value.ownBlock] at ej
          · obtain rfl : g = j := by simpa [Value.ownBlock] using ej
            rw [hgb] at hj; cases hj; rfl)).trans (KeepsOthers.setCell _ _ _) |>.from _
      · rw [cellsT_append, List.length_append]
        exact HO.out.kept hg2 (.inr (hv1.not_row (by decide) HO.out).symm)
      · simp
      · exact (hb1.kept hgw (Ne.symm (hne _ (by omega)))).kept hg2 (by simp)
      · exact (hb2.kept hgw (Ne.symm (hne _ (by omega)))).kept hg2 (by simp; omega)
      · exact (HBB.out.grown hgw (by omega) (fun kk e => by
          rcases HROW.out.2 with ⟨rfl, _⟩ | ⟨g, cap, cur, rfl, hg0, _⟩
          · simp [Value.ownBlock] at e
          · have : g = kk := by simpa [Value.ownBlock] using e
            omega)).setCell (p := ⟨w.heap.size, 0, none⟩) (Nat.le_refl _) _
      · have := hgw.size; have := hg2.size; omega
      · intro x hx
        rcases List.mem_append.1 hx with h | h
        · exact HALL.out x h
        · simp at h; rw [h]
    · have e1 : (er == 0) = false := by simpa using her
      have e2 : (er != 0) = true := by simpa using her
      have mixed : Tryz.prog.follows .mixedOrders = true := by kernel_rfl
      have HER := Lib.hid her
      clear her
      gi_wp2
      gi_region_with_o (fail)
      all_goals
        gi_wp2
        refine ⟨((((KeepsOthers.setCell W _ _).trans (KeepsOthers.setCell _ _ _)).trans (KeepsOthers.setCell _ _ _)).trans (KeepsOthers.drew _)).from _, pre, ⟨k, t, a, er⟩, ⟨rfl, HALL.out, HER.out, rfl⟩,
          ⟨((hv.set _).other (by omega) _).other (by omega) _, ((hb1.other (by omega) _).set _).other (by omega) _, ((hb2.other (by omega) _).other (by omega) _).set _⟩,
          (((HBB.out.setCell (p := ⟨w.heap.size, 0, none⟩) (Nat.le_refl _) _).setCell (p := ⟨w.heap.size + 1, 0, none⟩) (by simp) _).setCell (p := ⟨w.heap.size + 1 + 1, 0, none⟩) (by simp; omega) _).drew, ?_⟩
        have z1 := (grown_set W w.heap.size 0 (.slice none 0 0)).size
        have z2 := (grown_set (W.setCell ⟨w.heap.size, 0, none⟩ (.slice none 0 0)) (w.heap.size + 1) 0 (.int .i64 a)).size
        have z3 := (grown_set ((W.setCell ⟨w.heap.size, 0, none⟩ (.slice none 0 0)).setCell ⟨w.heap.size + 1, 0, none⟩ (.int .i64 a)) (w.heap.size + 1 + 1) 0 (.int .i64 er)).size
        show W0.heap.size ≤ (((W.setCell ⟨w.heap.size, 0, none⟩ (.slice none 0 0)).setCell ⟨w.heap.size + 1, 0, none⟩ (.int .i64 a)).setCell ⟨w.heap.size + 1 + 1, 0, none⟩ (.int .i64 er)).heap.size
        omega
  case done =>
    rintro D xs W hD rfl ⟨⟨v, hv, hrow, hnil⟩, ⟨hb1, hb2⟩, hB, hz, hall⟩ hK
    have vc := hv.cell
    have g0 := hv.frozen
    have g1 := hb1.frozen
    have g2 := hb2.frozen
    have v1 := hb1.cell
    have v2 := hb2.cell
    have hL := lexErr_none hall
    have HL := Lib.hid hL
    have HR := Lib.hid hrow
    have HN := Lib.hid hnil
    clear hL hrow hnil hall
    obtain ⟨aa, nn, cc, rfl⟩ : ∃ aa nn cc, v = .slice aa nn cc := by
      rcases HR.out.2 with ⟨h, _⟩ | ⟨g, cap, cur, h, _⟩
      · exact ⟨_, _, _, h⟩
      · exact ⟨_, _, _, h⟩
    have hK' := ((KeepsOthers.setCell W ⟨w.heap.size, 0, none⟩ (.slice aa nn cc)).trans ((KeepsOthers.setCell _ ⟨w.heap.size + 1, 0, none⟩ (.int .i64 0)).trans (KeepsOthers.setCell _ ⟨w.heap.size + 1 + 1, 0, none⟩ (.int .i64 0)))).same D _ hK rfl
    have HC : ∀ B t v, Boxed _ B t v → _ := fun B t v (h : Boxed (((W.setCell ⟨w.heap.size, 0, none⟩ (.slice aa nn cc)).setCell ⟨w.heap.size + 1, 0, none⟩ (.int .i64 0)).setCell ⟨w.heap.size + 1 + 1, 0, none⟩ (.int .i64 0)) B t v) => cell_kept h.cell (grownBy_putObj' _ D (.deferred none)) (fun r e => by cases e; exact ⟨_, hK', rfl⟩)
    have c1 := Lib.hid (HC _ _ _ (((hv.set (.slice aa nn cc)).other (by omega) _).other (by omega) _))
    have c2 := Lib.hid (HC _ _ _ (((hb1.other (by omega) _).set (.int .i64 0)).other (by omega) _))
    have c3 := Lib.hid (HC _ _ _ (((hb2.other (by omega) _).other (by omega) _).set (.int .i64 0)))
    clear HC
    gi_wp2
    refine ⟨by simp, .inl ⟨_, _, rfl, run_takeDeferred hK', ?_⟩⟩
    have c1 := c1.out
    have c2 := c2.out
    have c3 := c3.out
    refine ⟨.tuple #[.slice aa nn cc, .int .i64 0, .int .i64 0], ?_, ?_⟩
    · simp [results, Tryz.f9, go_sem, c1, c2, c3]
    · unfold LexPost; rw [HL.out]
      have hB3 := ((hB.setCell (p := ⟨w.heap.size, 0, none⟩) (Nat.le_refl _) (.slice aa nn cc)).setCell (p := ⟨w.heap.size + 1, 0, none⟩) (by simp) (.int .i64 0)).setCell (p := ⟨w.heap.size + 1 + 1, 0, none⟩) (by simp; omega) (.int .i64 0)
      refine ⟨hB3.trans (belowK_b (w := w) (Nat.le_refl _) _ D _ _ (by omega) hK' rfl rfl), _, rfl, ?_, HN.out⟩
      have r1 := (((HR.out.kept (grown_set _ w.heap.size 0 (.slice aa nn cc)) (own_ne HR.out (by omega))).kept (grown_set _ (w.heap.size + 1) 0 (.int .i64 0)) (own_ne HR.out (by omega))).kept (grown_set _ (w.heap.size + 1 + 1) 0 (.int .i64 0)) (own_ne HR.out (by omega)))
      exact ownsRow_lower (ownsRow_putObj r1 (.deferred none) hK' rfl) (by omega)
  case stop =>
    rintro D c pre W hD hpre ⟨ys, x, ⟨rfl, hy, hx, rfl⟩, ⟨h1, h2, h3⟩, hB, hz⟩ hK
    have hL := lexErr_some hpre hy hx
    have HL := Lib.hid hL
    clear hL hpre hy hx
    have HC : ∀ B t v, Boxed W B t v → (W.putObj D (.deferred none)).cell? ⟨B, 0, none⟩ = some v := fun B t v h => cell_kept h.cell (grownBy_putObj' _ D (.deferred none)) (fun r e => by cases e; exact ⟨_, hK, rfl⟩)
    have c1 := Lib.hid (HC _ _ _ h1)
    have c2 := Lib.hid (HC _ _ _ h2)
    have c3 := Lib.hid (HC _ _ _ h3)
    clear HC
    gi_wp2
    refine ⟨by simp, .inl ⟨_, _, rfl, run_takeDeferred hK, ?_⟩⟩
    have c1 := c1.out
    have c2 := c2.out
    have c3 := c3.out
    refine ⟨.tuple #[.slice none 0 0, .int .i64 x.a, .int .i64 x.e], ?_, ?_⟩
    · simp [results, Tryz.f9, go_sem, c1, c2, c3]
    · unfold LexPost; rw [HL.out]
      exact ⟨hB.trans (belowK_b (w := w) (Nat.le_refl _) _ D _ _ (by omega) hK rfl rfl), rfl⟩
end Go.Proofs.YtgepfenjbjlgpaaGreatDoor
