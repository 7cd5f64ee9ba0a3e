/- Texts that belong together: Ranges over iterators: what they keep, marks, walks over maps (the store). The signatures of a store: maps.Keys, slices.AppendSeq, slices.Collect. Signatures: compare, Less; the comparison of Sigs. sort.Slice of two signatures, by a comparison that lays blocks. sort.Slice of at most two signatures. (*Store).Sigs, of at most two signatures. The statements' helpers: how many subterms a term has, counted up to a bound. The statements' helpers: SameTerm, sign, small. Sigs of a store; SameAtom, SameAtoms. SameSigs; the small helpers of the laws. The laws' small makers of atoms and terms. filled: a  -/
import Derived.Test.YtcoieohbmkjpoaaGreatDoorB1c
import Derived.Test.YtcoieohbmkjpoaaGreatDoorB1e
import Derived.Test.YtcoieohbmkjpoaaGreatDoorProg
import Derived.Test.YtcoieohbmkjpoaaGreatDoorB1a
import Derived.RangeFuncNested
import Derived.RangeFuncBound
import Derived.RangeFuncCalls
import Derived.RangeFuncLeaves
import Derived.RangeFuncBox
import Derived.Below
import Derived.Carry
import Derived.Shelf.Abstract
import Derived.Shelf.RegionOpen
import Derived.WalkKit
import Derived.OwnWalkIn
import Derived.TacticsInMore
import Derived.LoopNIn
import Derived.LoopIn
import Derived.Lib.Hide
import Derived.Handy
import Derived.Sort.MapsRangeIn
import Derived.Maps.OwnIn
import Derived.LoopN
import Derived.Shelf.GgSortFunc.Tiny
import Derived.WalkSpells
import Derived.WalkLawsBesides
import Derived.IntWalk
import Derived.StillTailTactics
import Derived.Deep.QuietTactic
import Derived.BigQuiet
namespace Go.Proofs.YtcoieohbmkjpoaaGreatDoor
open Go.RowKit Go.Shelf Go.Maps
section

/-- What an iterator does between two rounds: below B nothing turns, and of the rest only what is no cells, or cells of its own types. -/
structure StepT (B : Nat) (Ti : TypeId → Bool) (W W' : World) : Prop where
  os : W'.os = W.os
  tape : W'.tape = W.tape
  output : W'.output = W.output
  size : W.heap.size ≤ W'.heap.size
  block : ∀ k o, W.heap[k]? = some o → (k < B ∨ ∃ cs t f, o = .cells cs t f ∧ Ti t = false) → W'.heap[k]? = some o
theorem StepT.refl (B : Nat) (Ti : TypeId → Bool) (W : World) : StepT B Ti W W := ⟨rfl, rfl, rfl, Nat.le_refl _, fun _ _ h _ => h⟩
theorem StepT.trans {B : Nat} {Ti : TypeId → Bool} {X Y Z : World} (h : StepT B Ti X Y) (k : StepT B Ti Y Z) : StepT B Ti X Z :=
  ⟨k.os.trans h.os, k.tape.trans h.tape, k.output.trans h.output, Nat.le_trans h.size k.size, fun i o hi hp => k.block i o (h.block i o hi hp) hp⟩
theorem StepT.mono {B B' : Nat} {Ti : TypeId → Bool} {W W' : World} (h : StepT B' Ti W W') (hB : B ≤ B') : StepT B Ti W W' :=
  ⟨h.os, h.tape, h.output, h.size, fun k o hk hp => h.block k o hk (hp.imp (fun h1 => Nat.lt_of_lt_of_le h1 hB) id)⟩
theorem StepT.alloc (B : Nat) (Ti : TypeId → Bool) (W : World) (o : Obj) : StepT B Ti W (W.alloc o) :=
  ⟨rfl, rfl, rfl, by simp, fun _ _ hk _ => (Below.heap_alloc _ _ _ (Array.getElem?_eq_some_iff.1 hk).1).trans hk⟩
theorem StepT.putObj {B : Nat} {Ti : TypeId → Bool} {W : World} {l : Nat} {o : Obj} (o' : Obj) (hB : B ≤ l) (hl : W.heap[l]? = some o) (ho : o.isCells = false) : StepT B Ti W (W.putObj l o') :=
  ⟨rfl, rfl, rfl, by simp, fun k o2 hk hp => by
    have hne : k ≠ l := by
      intro e
      subst e
      rw [hl] at hk
      cases hk
      rcases hp with hp | ⟨cs, t, f, rfl, _⟩
      · omega
      · cases ho
    exact (World.putObj_heap_other hne).trans hk⟩
theorem StepT.setCell {B : Nat} {Ti : TypeId → Bool} {W : World} {b i : Nat} {cs : Array Value} {t : TypeId} {f : Nat × Nat} (u : Value) (hB : B ≤ b) (hb : W.heap[b]? = some (.cells cs t f)) (ht : Ti t = true) : StepT B Ti W (W.setCell ⟨b, i, none⟩ u) :=
  ⟨rfl, rfl, rfl, by simp [World.setCell], fun k o hk hp => by
    have hne : k ≠ b := by
      intro e
      subst e
      rw [hb] at hk
      cases hk
      rcases hp with hp | ⟨cs', t', f', e2, h2⟩
      · omega
      · cases e2; rw [ht] at h2; cases h2
    exact (Below.heap_setCell _ _ _ k (by simpa using hne)).trans hk⟩
theorem StepT.drew (B : Nat) (Ti : TypeId → Bool) (W : World) : StepT B Ti W W.drew := ⟨rfl, rfl, rfl, Nat.le_refl _, fun _ _ h _ => h⟩
theorem StepT.of_below {B : Nat} {Ti : TypeId → Bool} {W W' : World} (h : Below W.heap.size W W') : StepT B Ti W W' := ⟨h.os, h.tape, h.output, h.size, fun k _ hk _ => (h.block k (Array.getElem?_eq_some_iff.1 hk).1).trans hk⟩
theorem StepT.below {B : Nat} {Ti : TypeId → Bool} {W W' : World} (h : StepT B Ti W W') (hB : B ≤ W.heap.size) : Below B W W' :=
  ⟨h.os, h.tape, h.output, h.size, fun k hk => by
    have hk' : k < W.heap.size := Nat.lt_of_lt_of_le hk hB
    rw [Array.getElem?_eq_getElem hk']
    exact h.block k _ (Array.getElem?_eq_getElem hk') (Or.inl hk)⟩
/-- An invariant bears what an iterator does. -/
def BearsT {β : Type} (B : Nat) (Ti : TypeId → Bool) (I : β → World → Prop) : Prop := ∀ s W W', I s W → StepT B Ti W W' → I s W'
theorem BearsT.and {β : Type} {B : Nat} {Ti : TypeId → Bool} {I I' : β → World → Prop} (h : BearsT B Ti I) (h' : BearsT B Ti I') : BearsT B Ti (fun s W => I s W ∧ I' s W) := fun s W W' hs hw => ⟨h s W W' hs.1 hw, h' s W W' hs.2 hw⟩
theorem BearsT.more {β : Type} {B B' : Nat} {Ti : TypeId → Bool} {I : β → World → Prop} (h : BearsT B Ti I) (hB : B ≤ B') : BearsT B' Ti I := fun s W W' hs hw => h s W W' hs (hw.mono hB)
/-- What a round of the body keeps: cells but those of its own types, maps and walks but its own. -/
def prot (Tu : TypeId → Bool) (Mu : Nat → Bool) (k : Nat) : Obj → Bool
  | .cells _ t _ => !Tu t
  | _ => !Mu k
structure KeepU (n₀ : Nat) (Tu : TypeId → Bool) (Mu : Nat → Bool) (W W' : World) : Prop where
  low : Below n₀ W W'
  block : ∀ k o, W.heap[k]? = some o → prot Tu Mu k o = true → W'.heap[k]? = some o
theorem KeepU.refl (n₀ : Nat) (Tu : TypeId → Bool) (Mu : Nat → Bool) (W : World) : KeepU n₀ Tu Mu W W := ⟨Below.refl _ _, fun _ _ h _ => h⟩
theorem KeepU.trans {n₀ : Nat} {Tu : TypeId → Bool} {Mu : Nat → Bool} {X Y Z : World} (h : KeepU n₀ Tu Mu X Y) (k : KeepU n₀ Tu Mu Y Z) : KeepU n₀ Tu Mu X Z :=
  ⟨h.low.trans k.low, fun i o hi hp => k.block i o (h.block i o hi hp) hp⟩
theorem KeepU.alloc {n₀ : Nat} (Tu : TypeId → Bool) (Mu : Nat → Bool) {W : World} (hn : n₀ ≤ W.heap.size) (o : Obj) : KeepU n₀ Tu Mu W (W.alloc o) :=
  ⟨(Below.refl _ W).alloc hn o, fun _ _ hk _ => (Below.heap_alloc _ _ _ (Array.getElem?_eq_some_iff.1 hk).1).trans hk⟩
theorem KeepU.of_below {n₀ : Nat} {Tu : TypeId → Bool} {Mu : Nat → Bool} {W W' : World} (hn : n₀ ≤ W.heap.size) (h : Below W.heap.size W W') : KeepU n₀ Tu Mu W W' := ⟨h.mono hn, fun k _ hk _ => (h.block k (Array.getElem?_eq_some_iff.1 hk).1).trans hk⟩
/-- A round: its record turns busy, and is ready again at the end. -/
theorem KeepU.round {n₀ : Nat} {Tu : TypeId → Bool} {Mu : Nat → Bool} {X Y Z : World} {l : Nat} {r r2 r3 : Loop} (h : KeepU n₀ Tu Mu X Y) (hn : n₀ ≤ l) (hl : Y.heap[l]? = some (.loop r)) (hx : ∀ o, X.heap[l]? = some o → o = .loop r) (h2 : KeepU n₀ Tu Mu (Y.putObj l (.loop r2)) Z) (h3 : Z.heap[l]? = some (.loop r3)) : KeepU n₀ Tu Mu X (Z.putObj l (.loop r)) := by
  have hb1 : Below n₀ Y (Y.putObj l (.loop r2)) := (Below.refl n₀ Y).grown (grownBy_putObj' Y l _) (Nat.le_trans hn (Nat.le_of_lt (Array.getElem?_eq_some_iff.1 hl).1)) (fun k e => by cases e; exact hn)
  have hb2 : Below n₀ Z (Z.putObj l (.loop r)) := (Below.refl n₀ Z).grown (grownBy_putObj' Z l _) (Nat.le_trans hn (Nat.le_of_lt (Array.getElem?_eq_some_iff.1 h3).1)) (fun k e => by cases e; exact hn)
  refine ⟨((h.low.trans hb1).trans h2.low).trans hb2, fun k o hk hp => ?_⟩
  by_cases e : k = l
  · subst e
    rw [hx o hk]
    exact World.putObj_heap_same (Array.getElem?_eq_some_iff.1 h3).1
  · exact (World.putObj_heap_other e).trans (h2.block k o ((World.putObj_heap_other e).trans (h.block k o hk hp)) hp)
/-- A step of an iterator that began after. -/
theorem KeepU.step {n₀ B : Nat} {Ti Tu : TypeId → Bool} {Mu : Nat → Bool} {X Y Z : World} (h : KeepU n₀ Tu Mu X Y) (hB : X.heap.size ≤ B) (hn : n₀ ≤ X.heap.size) (h2 : StepT B Ti Y Z) (hY : B ≤ Y.heap.size) : KeepU n₀ Tu Mu X Z :=
  ⟨h.low.trans ((h2.below hY).mono (Nat.le_trans hn hB)), fun k o hk hp => h2.block k o (h.block k o hk hp) (Or.inl (Nat.lt_of_lt_of_le (Array.getElem?_eq_some_iff.1 hk).1 hB))⟩
theorem KeepU.from {n₀ B : Nat} {Tu : TypeId → Bool} {Mu : Nat → Bool} {W W' : World} (h : KeepU n₀ Tu Mu W W') (hM : ∀ k, Mu k = true → k < B) : KeepsFrom B W W' :=
  ⟨h.low.size, fun k o hB hk ho => h.block k o hk (by
    have hm : Mu k = false := by
      cases e : Mu k with
      | false => rfl
      | true => have := hM k e; omega
    cases o <;> first | (cases ho; done) | simp [prot, hm])⟩
theorem KeepsFrom.more {B B' : Nat} {W W' : World} (h : KeepsFrom B W W') (hB : B ≤ B') : KeepsFrom B' W W' := ⟨h.size, fun k o hk => h.same k o (Nat.le_trans hB hk)⟩
theorem KeepU.size {n₀ : Nat} {Tu : TypeId → Bool} {Mu : Nat → Bool} {W W' : World} (h : KeepU n₀ Tu Mu W W') : W.heap.size ≤ W'.heap.size := h.low.size
/-- The contract of an iterator: it hands on the elements of a list, one after the other, or those up to where the body stops it. -/
def SeqT {α : Type} (n : Nat) (P : Program) (g : Nat) (lb : Array Value) (encs : α → Array Value) (Ti : TypeId → Bool) (n₀ : Nat) (Tu : TypeId → Bool) (Mu : Nat → Bool) (X : α → Prop) (S Sp : List α → Prop) (N : Nat) (w : World) : Prop :=
  ∀ (l : Nat) (J Jx : List α → World → Prop) (W : World), l < W.heap.size → KeepU n₀ Tu Mu w W → BearsT W.heap.size Ti J → BearsT W.heap.size Ti Jx →
    (∀ m pre x W1, J pre W1 → pre.length < N → X x → YieldAt Fence.wide m P l (encs x) W1 fun e W' =>
      (e = .returned (.bool true) ∧ J (pre ++ [x]) W' ∧ KeepU n₀ Tu Mu W1 W') ∨ (e = .returned (.bool false) ∧ Jx (pre ++ [x]) W' ∧ KeepsFrom (l + 1) W1 W')) →
    J [] W →
    CallsIn Fence.wide n P g (#[.func (.yield l) #[] #[]] ++ lb) W fun e W' => (∃ v, e = .returned v) ∧ ((∃ xs, S xs ∧ J xs W') ∨ (∃ pre, Sp pre ∧ Jx pre W'))
theorem SeqT.later {α : Type} {n : Nat} {P : Program} {g : Nat} {lb : Array Value} {encs : α → Array Value} {Ti : TypeId → Bool} {n₀ : Nat} {Tu : TypeId → Bool} {Mu : Nat → Bool} {X : α → Prop} {S Sp : List α → Prop} {N : Nat} {w w' : World} (h : SeqT n P g lb encs Ti n₀ Tu Mu X S Sp N w) (hk : KeepU n₀ Tu Mu w w') : SeqT n P g lb encs Ti n₀ Tu Mu X S Sp N w' :=
  fun l J Jx W hl hW hJ hJx hY h0 => h l J Jx W hl (hk.trans hW) hJ hJx hY h0
theorem RoundIn.anyDepth' {F : Fence} (hd : F.depth = none) {m m' : Nat} {P : Program} {l : Nat} {f : FuncId} {tmps : Array Value} {assign body : Code} {w : World} {R : Ending → World → Prop}
    (h : RoundIn F m P l f tmps assign body w R) : RoundIn F m' P l f tmps assign body w R := ⟨h.1, fun c cs _ => h.2 c cs (fun d h => by rw [hd] at h; cases h)⟩
variable {P : Program}
/-- The law of a range over such an iterator. -/
theorem range_t {α : Type} {n : Nat} {g : Operand} {ps : Array Tmp} {assign body : Code} {Q : Exit → Act → World → Prop} {a : Act} {w : World}
    {gf : Nat} {lb : Array Value} (hg : a.eval g = .func (.func gf) #[] lb) (eg : ∀ args w, (callFunc gf args).run P w = .ok (.enter gf args) w)
    {encs : α → Array Value} {Ti : TypeId → Bool} {n₀ : Nat} {Tu : TypeId → Bool} {Mu : Nat → Bool} {X : α → Prop} {S Sp : List α → Prop} {N : Nat} (hn : n₀ ≤ w.heap.size) (hseq : SeqT (n - 1) P gf lb encs Ti n₀ Tu Mu X S Sp N w) (hps : ∀ x, (encs x).size = ps.size)
    (I : List α → World → Prop) (Ix : Code → List α → World → Prop) (hI : BearsT w.heap.size Ti I) (hIx : ∀ c, BearsT w.heap.size Ti (Ix c)) (h0 : I [] w) (Ax : α → Act → World → Prop) (hAx : ∀ x a', BearsT w.heap.size Ti (fun (_ : Unit) W => Ax x a' W))
    (hassign : ∀ (m l : Nat) (pre : List α) (x : α) (W : World) (K : Act → World → Prop), I pre W → (∀ a' W', KeepsFrom w.heap.size W W' → KeepU n₀ Tu Mu W W' → I pre W' → Ax x a' W' → K a' W') →
      assign.wpIn (Fence.wide.inRound l) m P (Exit.then K (fun _ _ _ => False)) { tmps := (ps.zip (encs x)).foldl (fun t (p, v) => t.setIfInBounds p v) a.tmps, defers := [] } W)
    (hbody : ∀ (m l : Nat) (pre : List α) (x : α) (a' : Act) (W : World), w.heap.size ≤ l → (∃ r, W.heap[l]? = some (.loop r)) → I pre W → Ax x a' W → pre.length < N → X x → body.wpIn (Fence.wide.inRound l) m P (ownPostG w.heap.size (KeepU n₀ Tu Mu) I Ix (pre ++ [x]) W) a' W)
    (hdone : ∀ (D : Nat) (xs : List α) (W : World), w.heap.size ≤ D → S xs → I xs W → W.heap[D]? = some (.deferred (some [])) → Q .normal { a with defers := { target := .collected D, args := #[] } :: a.defers } W)
    (hstop : ∀ (D : Nat) (c : Code) (pre : List α) (W : World), w.heap.size ≤ D → Sp pre → Ix c pre W → W.heap[D]? = some (.deferred (some [])) → c.wpIn Fence.wide n P Q { a with defers := { target := .collected D, args := #[] } :: a.defers } W) :
    (Code.rangeFunc g ps assign body).wpIn Fence.wide n P Q a w := by
  refine wpIn_rangeFunc ?_
  intro fn hfn
  rw [show Fence.wide.round = none from rfl]
  obtain ⟨rec, hrec⟩ : ∃ rec : LoopState → Option Code → Loop, rec = fun st pe => { state := st, pending := pe, fn, tmps := a.tmps, params := ps, assign, body, defers := w.heap.size } := ⟨_, rfl⟩
  obtain ⟨W1, hW1⟩ : ∃ W1, (w.alloc (.deferred (some []))).alloc (.loop (rec .ready none)) = W1 := ⟨_, rfl⟩
  have hL1 : W1.heap[w.heap.size + 1]? = some (.loop (rec .ready none)) := by
    rw [← hW1]; have := World.alloc_heap_new (w.alloc (.deferred (some []))) (.loop (rec .ready none)); rwa [World.size_alloc] at this
  have hK1 : W1.heap[w.heap.size]? = some (.deferred (some [])) := by
    rw [← hW1]; exact (Below.heap_alloc _ _ _ (by simp)).trans (World.alloc_heap_new w _)
  have hs1 : StepT w.heap.size Ti w W1 := by rw [← hW1]; exact (StepT.alloc _ _ _ _).trans (StepT.alloc _ _ _ _)
  have hI1 : I [] W1 := hI _ _ _ h0 hs1
  have hb1 : KeepU n₀ Tu Mu w W1 := by rw [← hW1]; exact (KeepU.alloc _ _ hn _).trans (KeepU.alloc _ _ (by simp; omega) _)
  have hz1 : W1.heap.size = w.heap.size + 2 := by rw [← hW1]; simp
  refine ⟨w.heap.size + 1, [{ target := .collected w.heap.size, args := #[] }], W1, { target := .fn (.func gf) lb, args := #[.func (.yield (w.heap.size + 1)) #[] #[]] }, W1, gf,
    #[.func (.yield (w.heap.size + 1)) #[] #[]] ++ lb, W1, ?_, ?_, ?_, ?_, fun h => (by cases h), ?_⟩
  · rw [← hW1, hrec]; exact run_enterLoop_outer _ _ _ _ _
  · simp only [resolve, hg]
    simp [go_sem]
  · intro f' hf'; trivial
  · simp [invoke, go_sem, eg]
  · refine (hseq (w.heap.size + 1)
      (fun pre W => I pre W ∧ W.heap[w.heap.size + 1]? = some (.loop (rec .ready none)) ∧ W.heap[w.heap.size]? = some (.deferred (some [])))
      (fun pre W => ∃ c, Ix c pre W ∧ W.heap[w.heap.size + 1]? = some (.loop (rec .done (some c))) ∧ W.heap[w.heap.size]? = some (.deferred (some [])))
      W1 (by omega) hb1
      (fun s A B hs hg' => ⟨hI s A B hs.1 (hg'.mono (by omega)), hg'.block _ _ hs.2.1 (Or.inl (by omega)), hg'.block _ _ hs.2.2 (Or.inl (by omega))⟩)
      (fun s A B hs hg' => by
        obtain ⟨c, hc, hl, hk⟩ := hs
        exact ⟨c, hIx c s A B hc (hg'.mono (by omega)), hg'.block _ _ hl (Or.inl (by omega)), hg'.block _ _ hk (Or.inl (by omega))⟩)
      ?_ ⟨hI1, hL1, hK1⟩).mono ?_
    · rintro m pre x W ⟨hi, hl, hk⟩ hlen hXx
      have hlt : w.heap.size + 1 < W.heap.size := (Array.getElem?_eq_some_iff.1 hl).1
      have hy := run_yield (P := P) (args := encs x) hl (by rw [hrec]; exact hps x)
      rw [hrec] at hy
      refine ⟨fn, _, assign, body, hy, roundIn_of_wpIn hfn (hassign m _ pre x W _ hi ?_)⟩
      clear hy
      intro a' Wa hkfa hkpa hia hax
      have hl0 := hl
      replace hl := hkfa.same _ _ (by omega) hl rfl
      replace hk := hkfa.same _ _ (Nat.le_refl _) hk rfl
      replace hlt : w.heap.size + 1 < Wa.heap.size := (Array.getElem?_eq_some_iff.1 hl).1
      refine ⟨_, run_beginRound hl (by rw [hrec]), ?_⟩
      obtain ⟨Wb, hWb⟩ : ∃ Wb, Wa.putObj (w.heap.size + 1) (.loop { rec .ready none with state := .busy }) = Wb := ⟨_, rfl⟩
      have hl2 : Wb.heap[w.heap.size + 1]? = some (.loop { rec .ready none with state := .busy }) := by rw [← hWb]; exact World.putObj_heap_same hlt
      have hk2 : Wb.heap[w.heap.size]? = some (.deferred (some [])) := by rw [← hWb]; exact (World.putObj_heap_other (by omega)).trans hk
      have hib : I pre Wb := by rw [← hWb]; exact hI _ _ _ hia (StepT.putObj _ (by omega) hl rfl)
      have haxb : Ax x a' Wb := by rw [← hWb]; exact hAx x a' () _ _ hax (StepT.putObj _ (by omega) hl rfl)
      rw [hWb]
      refine wpIn_mono (hbody m _ pre x a' Wb (by omega) ⟨_, hl2⟩ hib haxb hlen hXx) ?_
      have fin : ∀ (jump : Option Code) (W3 : World), KeepsFrom w.heap.size Wb W3 →
          (Instr.endRound (w.heap.size + 1) jump).run P W3 = .ok (.bool jump.isNone) (W3.putObj (w.heap.size + 1) (.loop (rec (if jump.isNone then .ready else .done) jump))) ∧
          W3.heap[w.heap.size + 1]? = some (.loop { rec .ready none with state := .busy }) ∧
          (W3.putObj (w.heap.size + 1) (.loop (rec (if jump.isNone then .ready else .done) jump))).heap[w.heap.size + 1]? = some (.loop (rec (if jump.isNone then .ready else .done) jump)) ∧
          (W3.putObj (w.heap.size + 1) (.loop (rec (if jump.isNone then .ready else .done) jump))).heap[w.heap.size]? = some (.deferred (some [])) := fun jump W3 hk3 => by
        have hl3 := hk3.same _ _ (by omega) hl2 rfl
        have := run_endRound (P := P) jump hl3
        rw [hrec] at this ⊢
        exact ⟨this, by rw [hrec] at hl3; exact hl3, World.putObj_heap_same (Array.getElem?_eq_some_iff.1 hl3).1, (World.putObj_heap_other (by omega)).trans (hk3.same _ _ (Nat.le_refl _) hk2 rfl)⟩
      have hfrom : ∀ (W3 : World) (o3 : Obj), KeepsFrom w.heap.size Wb W3 → KeepsFrom (w.heap.size + 1 + 1) W (W3.putObj (w.heap.size + 1) o3) := fun W3 o3 h3 =>
        ⟨by have := h3.size; have := hkfa.size; rw [← hWb] at *; simp at *; omega, fun k o hB hk ho => (World.putObj_heap_other (by omega)).trans (h3.same k o (by omega) (by rw [← hWb]; exact (World.putObj_heap_other (by omega)).trans (hkfa.same k o (by omega) hk ho)) ho)⟩
      rintro e a3 W3 hp
      cases e with
      | normal =>
        obtain ⟨hk3, hkp3, hi3⟩ := hp
        obtain ⟨hr, hl3, hl4, hk4⟩ := fin none W3 hk3
        exact ⟨_, _, hr, .inl ⟨rfl, ⟨hI _ _ _ hi3 (StepT.putObj _ (by omega) hl3 rfl), hl4, hk4⟩, hkpa.round (by omega) hl (fun o ho => by rw [hl0] at ho; exact (Option.some.inj ho).symm) (by rw [hWb]; exact hkp3) hl3⟩⟩
      | ret =>
        obtain ⟨hk3, hi3⟩ := hp
        obtain ⟨hr, hl3, hl4, hk4⟩ := fin (some .ret) W3 hk3
        exact ⟨_, _, hr, .inr ⟨rfl, ⟨.ret, hIx _ _ _ _ hi3 (StepT.putObj _ (by omega) hl3 rfl), hl4, hk4⟩, hfrom _ _ hk3⟩⟩
      | exit id =>
        obtain ⟨hk3, hi3⟩ := hp
        obtain ⟨hr, hl3, hl4, hk4⟩ := fin (some (.exit id)) W3 hk3
        exact ⟨_, _, hr, .inr ⟨rfl, ⟨.exit id, hIx _ _ _ _ hi3 (StepT.putObj _ (by omega) hl3 rfl), hl4, hk4⟩, hfrom _ _ hk3⟩⟩
      | goto t =>
        obtain ⟨hk3, hi3⟩ := hp
        obtain ⟨hr, hl3, hl4, hk4⟩ := fin (some (.goto t)) W3 hk3
        exact ⟨_, _, hr, .inr ⟨rfl, ⟨.goto t, hIx _ _ _ _ hi3 (StepT.putObj _ (by omega) hl3 rfl), hl4, hk4⟩, hfrom _ _ hk3⟩⟩
      | panic ch => exact hp.elim
      | outgrown => exact hp.elim
    · rintro e W2 ⟨⟨v, rfl⟩, (⟨xs, hS, hi, hl, hk⟩ | ⟨pre, hSp, c, hi, hl, hk⟩)⟩
      · exact ⟨none, _, by have := run_endLoop (P := P) hl (by rw [hrec]; simp); rw [hrec] at this; exact this, hdone _ xs _ (Nat.le_refl _) hS (hI _ _ _ hi (StepT.putObj _ (by omega) hl rfl)) ((World.putObj_heap_other (by omega)).trans hk)⟩
      · exact ⟨some c, _, by have := run_endLoop (P := P) hl (by rw [hrec]; simp); rw [hrec] at this; exact this, hstop _ c pre _ (Nat.le_refl _) hSp (hIx c _ _ _ hi (StepT.putObj _ (by omega) hl rfl)) ((World.putObj_heap_other (by omega)).trans hk)⟩
end
def noT : TypeId → Bool := fun _ => false
/-- The marks that ranges in a loop leave among the deferred calls. -/
def marks (ds : List Nat) : List Deferred := ds.map fun D => { target := .collected D, args := #[] }
theorem marks_cons (D : Nat) (ds : List Nat) : ({ target := .collected D, args := #[] } : Deferred) :: marks ds = marks (D :: ds) := rfl
theorem marks_nil : ([] : List Deferred) = marks [] := rfl
def Marked (B : Nat) (ds : List Nat) (W : World) : Prop := ds.Pairwise (· ≠ ·) ∧ ∀ D ∈ ds, B ≤ D ∧ W.heap[D]? = some (.deferred (some []))
theorem Marked.nil (B : Nat) (W : World) : Marked B [] W := ⟨List.Pairwise.nil, by simp⟩
theorem Marked.keep {B n₀ : Nat} {ds : List Nat} {Tu : TypeId → Bool} {Mu : Nat → Bool} {W W' : World} (h : Marked B ds W) (hk : KeepU n₀ Tu Mu W W') (hM : ∀ k, Mu k = true → k < B) : Marked B ds W' :=
  ⟨h.1, fun D hD => ⟨(h.2 D hD).1, (hk.from hM).same D _ (h.2 D hD).1 (h.2 D hD).2 rfl⟩⟩
theorem Marked.from {B B' : Nat} {ds : List Nat} {W W' : World} (h : Marked B ds W) (hk : KeepsFrom B' W W') (hB : B' ≤ B) : Marked B ds W' :=
  ⟨h.1, fun D hD => ⟨(h.2 D hD).1, hk.same D _ (Nat.le_trans hB (h.2 D hD).1) (h.2 D hD).2 rfl⟩⟩
theorem Marked.step {B B' : Nat} {Ti : TypeId → Bool} {ds : List Nat} {W W' : World} (h : Marked B ds W) (hk : StepT B' Ti W W') (hl : ∀ d ∈ ds, d < B') : Marked B ds W' :=
  ⟨h.1, fun D hD => ⟨(h.2 D hD).1, hk.block D _ (h.2 D hD).2 (Or.inl (hl D hD))⟩⟩
theorem Marked.cons {B D : Nat} {ds : List Nat} {W : World} (h : Marked B ds W) (hD : W.heap[D]? = some (.deferred (some []))) (hB : B ≤ D) (hn : ∀ d ∈ ds, d < D) : Marked B (D :: ds) W :=
  ⟨List.pairwise_cons.2 ⟨fun d hd e => by have := hn d hd; omega, h.1⟩, fun d hd => by rcases List.mem_cons.1 hd with rfl | hd; exact ⟨hB, hD⟩; exact h.2 d hd⟩
theorem Marked.lt {B : Nat} {ds : List Nat} {W : World} (h : Marked B ds W) : ∀ d ∈ ds, d < W.heap.size := fun d hd => (Array.getElem?_eq_some_iff.1 (h.2 d hd).2).1
/-- What iterators can depend on. -/
def alive : Obj → Bool
  | .cells _ _ _ | .map _ _ | .mapIter _ _ _ _ => true
  | _ => false
/-- What the marks' collection does. -/
structure Swept (B : Nat) (W W' : World) : Prop where
  os : W'.os = W.os
  tape : W'.tape = W.tape
  output : W'.output = W.output
  size : W.heap.size ≤ W'.heap.size
  low : ∀ k : Nat, k < B → W'.heap[k]? = W.heap[k]?
  same : ∀ (k : Nat) (o : Obj), W.heap[k]? = some o → alive o = true → W'.heap[k]? = some o
theorem Swept.refl (B : Nat) (W : World) : Swept B W W := ⟨rfl, rfl, rfl, Nat.le_refl _, fun _ _ => rfl, fun _ _ h _ => h⟩
theorem Swept.trans {B : Nat} {X Y Z : World} (h : Swept B X Y) (k : Swept B Y Z) : Swept B X Z :=
  ⟨k.os.trans h.os, k.tape.trans h.tape, k.output.trans h.output, Nat.le_trans h.size k.size, fun i hi => (k.low i hi).trans (h.low i hi), fun i o h1 h2 => k.same i o (h.same i o h1 h2) h2⟩
theorem Swept.below {B : Nat} {X Y : World} (h : Swept B X Y) : Below B X Y := ⟨h.os, h.tape, h.output, h.size, h.low⟩
theorem Swept.mark {B D : Nat} {W : World} {d : Option (List Deferred)} (hB : B ≤ D) (hD : W.heap[D]? = some (.deferred d)) (o : Obj) : Swept B W (W.putObj D o) :=
  ⟨rfl, rfl, rfl, by simp, fun k hk => World.putObj_heap_other (by omega), fun k o' hk ha => by
    have : k ≠ D := by
      intro e
      subst e
      rw [hD] at hk
      cases hk
      cases ha
    exact (World.putObj_heap_other this).trans hk⟩
theorem leaves_swept {P : Program} {F : Fence} {n B : Nat} {fn : Func} {tmps : Array Value} {R : Ending → World → Prop} : ∀ (ds : List Nat) (W : World), Marked B ds W → (∀ W', Swept B W W' → LeavesIn F n P fn tmps R [] .returning W') → LeavesInM F n P fn tmps R (marks ds) .returning W := by
  intro ds
  induction ds with
  | nil => exact fun W _ h => h W (Swept.refl _ _)
  | cons D ds ih =>
    intro W hm h
    obtain ⟨hB, hD⟩ := hm.2 D (List.mem_cons_self ..)
    have hs : Swept B W (W.putObj D (.deferred none)) := Swept.mark hB hD _
    refine ⟨by simp, Or.inl ⟨D, _, rfl, run_takeDeferred hD, ih _ ⟨(List.pairwise_cons.1 hm.1).2, fun d hd => ?_⟩ fun W' hW' => h W' (hs.trans hW')⟩⟩
    obtain ⟨h1, h2⟩ := hm.2 d (List.mem_cons_of_mem _ hd)
    exact ⟨h1, (World.putObj_heap_other (fun e => (List.pairwise_cons.1 hm.1).1 d hd e.symm)).trans h2⟩
attribute [local go_sem] Oper.semAt_some
/-- An element that the walk does not take apart. -/
structure Bx (α : Type) where
  val : α
/-- What a range over a map has done: d came, left are to come, cnt in number. -/
structure Walked {α : Type} (key : α → List UInt8) (names : List α) (N : Nat) (left : Lit → Bool) (cnt : Nat) (d : List α) : Prop where
  some : ∀ kl, left kl = true → ∃ x ∈ names, kl = .string (key x)
  rest : ∀ x ∈ names, left (.string (key x)) = false → x ∈ d
  mem : ∀ x ∈ d, x ∈ names ∧ left (.string (key x)) = false
  nod : d.Nodup
  len : d.length + cnt ≤ N
theorem Walked.start {α : Type} {key : α → List UInt8} {names : List α} {D : DataW Unit} (h : SetD key D names) : Walked key names names.length (Maps.has D) (Maps.size D) [] := by
  obtain ⟨es, rfl, hk, _, hm, hl⟩ := h
  refine ⟨fun kl hkl => ?_, fun x hx h => ?_, by simp, List.Pairwise.nil, by simpa [Maps.size] using hl⟩
  · obtain ⟨p, hp, hpk⟩ := List.any_eq_true.1 hkl
    obtain ⟨s, hs, e⟩ := hk p hp
    exact ⟨s, hs, by rw [← e, WideAt.sameKey_eq hpk]⟩
  · obtain ⟨p, hp, e⟩ := hm x hx
    have : Maps.has (DataW.map es) (Lit.string (key x)) = true := List.any_eq_true.2 ⟨p, hp, by rw [e]; simp [Lit.sameKey]⟩
    rw [this] at h; cases h
theorem Walked.step {α : Type} {key : α → List UInt8} {names : List α} {N : Nat} {left : Lit → Bool} {cnt cnt' : Nat} {d : List α} (h : Walked key names N left cnt d) (hinj : ∀ x ∈ names, ∀ y ∈ names, key x = key y → x = y) {x : α} (hx : x ∈ names) (hlx : left (.string (key x)) = true) (hc : cnt' < cnt) :
    Walked key names N (fun z => left z && !z.sameKey (.string (key x))) cnt' (d ++ [x]) := by
  refine ⟨fun kl hkl => h.some kl (by simp at hkl; exact hkl.1), fun y hy hly => ?_, fun y hy => ?_, ?_, by have := h.len; simp; omega⟩
  · simp only [Bool.and_eq_false_imp, Bool.not_eq_false'] at hly
    by_cases e : left (.string (key y)) = true
    · have := WideAt.sameKey_eq (hly e)
      have e2 : key y = key x := by simpa using this
      rw [hinj y hy x hx e2]; simp
    · exact List.mem_append_left _ (h.rest y hy (by simpa using e))
  · rcases List.mem_append.1 hy with hy | hy
    · obtain ⟨q1, q2⟩ := h.mem y hy
      exact ⟨q1, by simp [q2]⟩
    · rw [List.mem_singleton.1 hy]
      exact ⟨hx, by simp [Lit.sameKey]⟩
  · refine List.nodup_append.2 ⟨h.nod, by simp, fun a ha b hb e => ?_⟩
    rw [List.mem_singleton.1 hb] at e
    subst e
    have := (h.mem a ha).2
    rw [hlx] at this; cases this
theorem Walked.lt {α : Type} {key : α → List UInt8} {names : List α} {N : Nat} {left : Lit → Bool} {cnt : Nat} {d : List α} (h : Walked key names N left cnt d) (hc : 0 < cnt) : d.length < N := by have := h.len; omega
theorem Walked.done {α : Type} {key : α → List UInt8} {names : List α} {N : Nat} {left : Lit → Bool} {cnt : Nat} {d : List α} (h : Walked key names N left cnt d) (hl : ∀ kl, left kl = false) : (∀ x, x ∈ d ↔ x ∈ names) ∧ d.length ≤ N :=
  ⟨fun x => ⟨fun hx => (h.mem x hx).1, fun hx => h.rest x hx (hl _)⟩, by have := h.len; omega⟩
theorem ranges_same {H : Type} {w w' : World} {P : Program} {k : TypeId} {R : Value → Option (DataW H × List MemPlace)} {b r n : Nat} {D : DataW H} {left : Lit → Bool} {cnt : Nat} (h : w.ranges P k R b r n D left cnt) (hb : w'.heap[b]? = w.heap[b]?) (hr : w'.heap[r]? = w.heap[r]?) : w'.ranges P k R b r n D left cnt := by
  obtain ⟨es, clock, since, seen, c0, h1, h2, h3, h4, h5, h6⟩ := h
  exact ⟨es, clock, since, seen, c0, hb.trans h1, h2, h3, h4, hr.trans h5, h6⟩
theorem ownsMap_keep {H : Type} {n₀ : Nat} {Tu : TypeId → Bool} {Mu : Nat → Bool} {w w' : World} {P : Program} {k : TypeId} {R : Value → Option (DataW H × List MemPlace)} {b n : Nat} {D : DataW H} (h : w.ownsMap P k R b n D) (hk : KeepU n₀ Tu Mu w w') (hM : Mu b = false) : w'.ownsMap P k R b n D := by
  obtain ⟨es, clock, h1, h2⟩ := h
  exact ⟨es, clock, hk.block b _ h1 (by simp [prot, hM]), h2⟩
theorem ranges_keep {H : Type} {n₀ : Nat} {Tu : TypeId → Bool} {Mu : Nat → Bool} {w w' : World} {P : Program} {k : TypeId} {R : Value → Option (DataW H × List MemPlace)} {b r n : Nat} {D : DataW H} {left : Lit → Bool} {cnt : Nat} (h : w.ranges P k R b r n D left cnt) (hk : KeepU n₀ Tu Mu w w') (hM : Mu b = false) (hR : Mu r = false) : w'.ranges P k R b r n D left cnt := by
  obtain ⟨es, clock, since, seen, c0, h1, h2, h3, h4, h5, h6⟩ := h
  exact ⟨es, clock, since, seen, c0, hk.block b _ h1 (by simp [prot, hM]), h2, h3, h4, hk.block r _ h5 (by simp [prot, hR]), h6⟩
theorem ranges_iter {H : Type} {w : World} {P : Program} {k : TypeId} {R : Value → Option (DataW H × List MemPlace)} {b r n : Nat} {D : DataW H} {left : Lit → Bool} {cnt : Nat} (h : w.ranges P k R b r n D left cnt) : ∃ o, w.heap[r]? = some o ∧ o.isCells = false := by
  obtain ⟨es, clock, since, seen, c0, h1, h2, h3, h4, h5, h6⟩ := h
  exact ⟨_, h5, rfl⟩
/-- A step of a range over a map is a step of an iterator. -/
theorem StepT.grown {B : Nat} {Ti : TypeId → Bool} {w w' : World} {r : Nat} (hg : w.grownBy w' (some r)) (hB : B ≤ r) (ho : ∃ o, w.heap[r]? = some o ∧ o.isCells = false) : StepT B Ti w w' :=
  ⟨hg.os, hg.tape, hg.output, hg.size, fun k o hk hp => by
    obtain ⟨o2, ho2, hc⟩ := ho
    have hne : some k ≠ some r := by
      intro e
      cases e
      rw [hk] at ho2
      cases ho2
      rcases hp with hp | ⟨cs, t, f, rfl, _⟩
      · omega
      · cases hc
    exact (hg.block k (Array.getElem?_eq_some_iff.1 hk).1 hne).trans hk⟩
theorem StepT.grownNone {B : Nat} {Ti : TypeId → Bool} {w w' : World} (hg : w.grownBy w' none) : StepT B Ti w w' :=
  ⟨hg.os, hg.tape, hg.output, hg.size, fun k _ hk _ => (hg.block k (Array.getElem?_eq_some_iff.1 hk).1 (by simp)).trans hk⟩
section
variable {H : Type} {F : Fence} {nF : Nat} {P : Program} (w : World) {ops : Array Oper} {rest : List Oper} {o : Oper} {a : Act} {Q : Exit → Act → World → Prop}
/-- The step of a range over a map whose keys are told. -/
theorem wpListIn_next_keys {α β : Type} (hg : o.guard = none) (it : Operand) (hop : o.op = Op.next it false) (k : TypeId) (K : Keyed P k) (R : Value → Option (DataW H × List MemPlace)) (mkK : α → Value) (mkV : β → Value) (key : α → List UInt8) (names : List α)
    (hkey : ∀ x ∈ names, keyOf P k (mkK x) = some (.string (key x))) (hinj : ∀ x ∈ names, ∀ y ∈ names, key x = key y → x = y) (invV : ∀ v y, R v = some y → ∃ c, v = mkV c) (b r nn N : Nat) (D : DataW H) (left : Lit → Bool) (cnt : Nat) (d : List α)
    (hit : a.eval it = .pointer (some ⟨r, 0, none⟩)) (h : w.ranges P k R b r nn D left cnt) (hW : Walked key names N left cnt d)
    (hDone : (∀ x : Bx α, x.val ∈ d ↔ x.val ∈ names) → d.length ≤ N → wpListIn F nF P ops Q rest (a.put o.dst (.tuple #[.bool false])) w)
    (hMore : ∀ (x : Bx α) (c : β) (y : DataW H × List MemPlace) (left' : Lit → Bool) (w' : World) (cnt' : Nat), x.val ∈ names → d.length < N → R (mkV c) = some y → (∀ zd, D.atKey (.string (key x.val)) zd = y.1) → w'.ranges P k R b r nn D left' cnt' → Walked key names N left' cnt' (d ++ [x.val]) → cnt' < cnt →
      w.grownBy w' (some r) → (Instr.entry (.pointer (some ⟨r, 0, none⟩))).run P w' = .ok (.tuple #[mkK x.val, mkV c]) w' → wpListIn F nF P ops Q rest (a.put o.dst (.tuple #[.bool true, mkK x.val, mkV c])) w') :
    wpListIn F nF P ops Q (o :: rest) a w := by
  refine wpListIn_plain hg fun K' hK' => ?_
  unfold Oper.wpIn
  refine ⟨by simp [Oper.about, hop], ?_⟩
  rw [Oper.semAt_plain F _ _ (by rw [hop]; intro c hc'; cases hc')]
  rcases h.next K o.type with ⟨h0, hl, hrun⟩ | ⟨kv, v, kl, y, w', cnt', hkv, hlk, hv, hat, hrun, hrg, hlt, hgr, hsz, hen⟩
  · simp [execOp, hop, hit, hrun, Result.andThen]
    exact hK' _ _ (hDone (fun x => (hW.done hl).1 x.val) (hW.done hl).2)
  · obtain ⟨x, hx, rfl⟩ := hW.some kl hlk
    obtain rfl : kv = mkK x := K.inj hkv (hkey x hx)
    obtain ⟨c, rfl⟩ := invV v y hv
    simp [execOp, hop, hit, hrun, Result.andThen]
    exact hK' _ _ (hMore ⟨x⟩ c y _ w' cnt' hx (hW.lt (by omega)) hv hat hrg (hW.step hinj hx hlk hlt) hlt hgr hen)
end
/-- An iterator over the elements of a set, each once. -/
def IterU {α : Type} (enc : α → Value) (n₀ : Nat) (Tu : TypeId → Bool) (Mu : Nat → Bool) (w : World) (v : Value) (l : List α) (N : Nat) : Prop := ∃ f lb, v = .func (.func f) #[] lb ∧ (∀ args w, (callFunc f args).run Tryz.prog w = .ok (.enter f args) w) ∧
  ∀ n, SeqT n Tryz.prog f lb (fun s : α => #[enc s]) noT n₀ Tu Mu (· ∈ l) (fun xs => (∀ x, x ∈ xs ↔ x ∈ l) ∧ xs.Nodup ∧ xs.length ≤ N) (fun pre => ∀ x ∈ pre, x ∈ l) N w
theorem ownsRow_same {w w' : World} {base : Nat} {t : TypeId} {size : Nat} {v : Value} {n : Nat} {xs : List Value} (h : w.ownsRow base t size v n xs) (hk : ∀ (g : Nat) cs f, v.ownBlock = some g → w.heap[g]? = some (.cells cs t f) → w'.heap[g]? = some (.cells cs t f)) : w'.ownsRow base t size v n xs := by
  obtain ⟨h1, h2⟩ := h
  refine ⟨h1, ?_⟩
  rcases h2 with h2 | ⟨g, cap, cur, rfl, q1, q2, q3⟩
  · exact Or.inl h2
  · exact Or.inr ⟨g, cap, cur, rfl, q1, hk g _ _ rfl q2, q3⟩
theorem ownsRow_block {w : World} {base : Nat} {t : TypeId} {size : Nat} {v : Value} {n : Nat} {xs : List Value} (h : w.ownsRow base t size v n xs) : ∀ g, v.ownBlock = some g → base ≤ g ∧ ∃ cs, w.heap[g]? = some (.cells cs t (0, 0)) := by
  intro g hg
  obtain ⟨_, h2⟩ := h
  rcases h2 with ⟨rfl, _⟩ | ⟨g', cap, cur, rfl, q1, q2, q3⟩
  · cases hg
  · cases hg
    exact ⟨q1, cur, q2⟩
theorem ownsRow_slice {w : World} {base : Nat} {t : TypeId} {size : Nat} {v : Value} {n : Nat} {xs : List Value} (h : w.ownsRow base t size v n xs) : ∃ a c, v = .slice a n c := by
  obtain ⟨_, h2⟩ := h
  rcases h2 with ⟨rfl, rfl⟩ | ⟨g', cap, cur, rfl, _⟩
  · exact ⟨_, _, rfl⟩
  · exact ⟨_, _, rfl⟩
theorem keep_app {n₀ : Nat} {Tu : TypeId → Bool} {Mu : Nat → Bool} {X Y : World} {r : Option Nat} {t : TypeId} (hg : X.grownBy Y r) (hr : ∀ g, r = some g → n₀ ≤ g ∧ ∃ cs, X.heap[g]? = some (.cells cs t (0, 0))) (ht : Tu t = true) (hn : n₀ ≤ X.heap.size) : KeepU n₀ Tu Mu X Y := by
  refine ⟨⟨hg.os, hg.tape, hg.output, hg.size, fun k hk => hg.block k (by omega) fun e => by have := (hr k e.symm).1; omega⟩, fun k o hk hp => ?_⟩
  refine (hg.block k (Array.getElem?_eq_some_iff.1 hk).1 fun e => ?_).trans hk
  obtain ⟨_, cs, h⟩ := hr k e.symm
  rw [h] at hk
  cases hk
  simp [prot, ht] at hp
theorem box_set {X : World} {B : Nat} {u : Value} {t : TypeId} {f : Nat × Nat} (v : Value) (hb : X.heap[B]? = some (.cells #[u] t f)) : (X.setCell ⟨B, 0, none⟩ v).heap[B]? = some (.cells #[v] t f) := by
  have hl := (Array.getElem?_eq_some_iff.1 hb).1
  have he : X.heap[B] = .cells #[u] t f := by rw [Array.getElem?_eq_getElem hl] at hb; exact Option.some.inj hb
  simp [World.setCell, hl, Array.getElem_modify, he]
theorem keep_set {n₀ : Nat} {Tu : TypeId → Bool} {Mu : Nat → Bool} {X : World} {B i : Nat} {cs : Array Value} {t : TypeId} {f : Nat × Nat} (u : Value) (hb : X.heap[B]? = some (.cells cs t f)) (ht : Tu t = true) (hn : n₀ ≤ B) : KeepU n₀ Tu Mu X (X.setCell ⟨B, i, none⟩ u) := by
  have hne : ∀ k, k ≠ B → (X.setCell ⟨B, i, none⟩ u).heap[k]? = X.heap[k]? := fun k hk => Below.heap_setCell _ _ _ k (by simpa using hk)
  refine ⟨⟨rfl, rfl, rfl, by simp [World.setCell], fun k hk => hne k (by omega)⟩, fun k o hk hp => ?_⟩
  refine (hne k fun e => ?_).trans hk
  subst e
  rw [hb] at hk
  cases hk
  simp [prot, ht] at hp
end Go.Proofs.YtcoieohbmkjpoaaGreatDoor
namespace Go.Proofs.YtcoieohbmkjpoaaGreatDoor
open Go.RowKit Go.Shelf Go.Maps
attribute [local go_sem] Oper.semAt_some

def sgV (s : Sig) : Value := .agg #[.string s.1, .int .i64 s.2]
theorem sigB_inj {l : List Sig} (h : ∀ s ∈ l, SigOk s) : ∀ x ∈ l, ∀ y ∈ l, sigB x = sigB y → x = y := fun x hx y hy e => sigK_inj (h x hx) (h y hy) (by unfold sigK; rw [e])
set_option maxHeartbeats 400000 in
theorem keysS_any (m : Nat) (w : World) : Calls Tryz.prog 65 #[.map (some m)] w fun e w' => e = .returned (.func (.func 96) #[] #[.pointer (some ⟨w.heap.size, 0, none⟩)]) ∧ w' = w.alloc (.cells #[.map (some m)] 54) := by
  go_enter Tryz.func65, Tryz.ntmps65
  go_wp2
  go_returns
  exact ⟨rfl, rfl⟩
set_option maxRecDepth 100000 in
set_option maxHeartbeats 4000000 in
theorem keysS_seq {n₀ : Nat} {Tu : TypeId → Bool} {Mu : Nat → Bool} (hT1 : Tu 54 = false) (H : List Sig) (mh n1 : Nat) (D1 : DataW Unit) (w : World) (hn : n₀ ≤ w.heap.size) (hMu : ∀ k, Mu k = true → k < w.heap.size)
    (B1 : Nat) (hB1 : w.heap[B1]? = some (.cells #[.map (some mh)] 54 (0, 0)))
    (ho1 : w.ownsMap Tryz.prog 41 slE mh n1 D1) (hd1 : SetD sigB D1 H) (hk1 : ∀ s ∈ H, SigOk s) (hM1 : Mu mh = false) :
    IterU sgV n₀ Tu Mu w (.func (.func 96) #[] #[.pointer (some ⟨B1, 0, none⟩)]) H H.length := by
  refine ⟨_, _, rfl, fun _ _ => rfl, fun n => ?_⟩
  intro k0 J Jx W hlW hW hJ hJx hY h0
  have hBW1 := hW.block B1 _ hB1 (by simp [prot, hT1])
  have ho1' := ownsMap_keep ho1 hW hM1
  have hl1 := ho1'.lt
  have g1 := cells_at hBW1 0 _ rfl
  have HO1 := Lib.hid ho1'
  have HY := Lib.hid hY
  have HJ := Lib.hid hJ
  have H0 := Lib.hid h0
  have HN := Lib.hid (Nat.le_trans hn hW.size)
  have HMU := Lib.hid (show ∀ k, Mu k = true → k < W.heap.size from fun k h => Nat.lt_of_lt_of_le (hMu k h) hW.size)
  have HK1 := Lib.hid (fun s (hs : s ∈ H) => sigK_of s (hk1 s hs))
  have HI1 := Lib.hid (sigB_inj hk1)
  have HS1 := Lib.hid (Walked.start hd1)
  clear hB1 hW hBW1 hY hJ hJx h0 hn hMu hlW ho1 ho1' hk1 hd1
  have hdd : ∀ k : Nat, (Fence.wide.depth.isSome = true → 1 ≤ k) := fun k h => by cases h
  have hro : Fence.wide.round = none := rfl
  refine callsIn_of_wp Tryz.func96 rfl trivial ?_ hro
  simp only [Tryz.ntmps96, List.size_toArray, List.length_cons, List.length_nil, Nat.reduceAdd, Nat.reduceSub, Array.replicate_succ, Array.replicate_zero, List.push_toArray, List.append_toArray, List.nil_append, List.cons_append]
  gi_wp2_with (first
    | (gi_at_range; refine wpListIn_range_own _ rfl _ 54 rfl 41 85 sig_keyed Tryz.underlying54 _ mh n1 _ rfl HO1.out ?_; intro w0 hrg0 hg0 hs0)
    | gi_in)
  try go_frame
  gi_loopw [6] (fun _ wr => ∃ (left : Lit → Bool) (cnt : Nat) (d : List Sig), wr.ranges Tryz.prog 41 slE mh W.heap.size n1 D1 left cnt ∧ Walked sigB H H.length left cnt d ∧ J d wr ∧ KeepU n₀ Tu Mu W wr)
    (fun _ wr => wr.rangeLeft mh W.heap.size)
  case atStart =>
    exact ⟨_, _, [], hrg0, HS1.out, HJ.out _ _ _ H0.out (StepT.grownNone hg0), (KeepU.refl _ _ _ W).step (Nat.le_refl _) HN.out (StepT.grownNone (Ti := noT) hg0) (Nat.le_refl _)⟩
  case round =>
    obtain ⟨left, cnt, d, hrg, hwk, hJr, hK⟩ := hrel
    have HJR := Lib.hid hJr
    have HK := Lib.hid hK
    have HRG := Lib.hid hrg
    have HWK := Lib.hid hwk
    clear hJr hK
    have hMr1 : Mu W.heap.size = false := by
      cases e : Mu W.heap.size with
      | false => rfl
      | true => have := HMU.out _ e; omega
    gi_wp2_with (first
      | (gi_at_next; refine wpListIn_next_keys _ rfl _ rfl 41 sig_keyed slE (fun s : Sig => .agg #[.string s.1, .int .i64 s.2]) id sigB H HK1.out HI1.out (fun v _ _ => ⟨v, rfl⟩) mh W.heap.size n1 _ _ _ _ _ rfl HRG.out hwk ?_ ?_)
      | gi_in)
    · intro hall hlen
      have HA := Lib.hid (show (∀ x : Sig, x ∈ d ↔ x ∈ H) ∧ d.length ≤ H.length from ⟨fun x => hall ⟨x⟩, hlen⟩)
      clear hrg hwk hall hlen
      gi_wp2
      go_end0
      exact ⟨⟨_, rfl⟩, Or.inl ⟨d, ⟨fun y => HA.out.1 y, HWK.out.nod, HA.out.2⟩, HJR.out⟩⟩
    · rintro ⟨⟨p, q⟩⟩ c yd yp left2 w2 cnt2 hx hlt _ _ hrg2 hwk2 hc2 hg2 hen
      have hst : StepT W.heap.size noT wr w2 := StepT.grown hg2 (Nat.le_refl _) (ranges_iter HRG.out)
      have hleft := HRG.out.left_eq
      have hs2 : W.heap.size ≤ w2.heap.size := Nat.le_trans HK.out.size hst.size
      have hn2 : n₀ ≤ w2.heap.size := Nat.le_trans HN.out hs2
      have hK4 : KeepU n₀ Tu Mu W (w2.alloc (.cells #[.string p, .int .i64 q] 41)) := (HK.out.step (Nat.le_refl _) HN.out hst HK.out.size).trans (KeepU.alloc _ _ hn2 _)
      have hj4 := HJ.out _ _ _ (HJ.out _ _ _ HJR.out hst) (StepT.alloc W.heap.size noT w2 (.cells #[.string p, .int .i64 q] 41))
      obtain ⟨fn, tmps, assign, body, hy, hR⟩ := HY.out (n - 1) d (p, q) _ hj4 hlt hx
      have HR := Lib.hid hR
      have HR4 := Lib.hid (hrg2.alloc (.cells #[.string p, .int .i64 q] 41))
      have HK4 := Lib.hid hK4
      have HW2 := Lib.hid hwk2
      have HX := Lib.hid hx
      have HLE := Lib.hid hleft
      have HC2 := Lib.hid hc2
      simp only [sgV] at hy
      clear hrg hwk hx hlt hrg2 hwk2 hst hleft hc2 hg2 hK4 hj4 hR hs2 hn2
      gi_wp2_with ((try refine ⟨hdd _, ?_⟩); refine HR.out.mono ?_; clear HR; rintro e W3 (⟨rfl, hJ8, hk8⟩ | ⟨rfl, hx8, _⟩))
      · go_roundw
        case rel => exact ⟨_, _, d ++ [(p, q)], ranges_keep HR4.out hk8 hM1 hMr1, HW2.out, hJ8, HK4.out.trans hk8⟩
        case measure => rw [(ranges_keep HR4.out hk8 hM1 hMr1).left_eq, HLE.out]; exact HC2.out
      · go_returns
        refine ⟨⟨_, rfl⟩, Or.inr ⟨_, ?_, hx8⟩⟩
        intro y hy8
        rcases List.mem_append.1 hy8 with h | h
        · exact (HWK.out.mem _ h).1
        · rw [List.mem_singleton.1 h]; exact HX.out
def sgCs (s : Sig) : List Value := [.string s.1, .int .i64 s.2]
theorem info_Sel : (Tryz.prog.info? 41).map (fun i => (i.zero, i.size, i.bytes)) = some (some (.agg #[.string ⟨#[]⟩, .int .i64 0]), 2, 24) := by kernel_rfl
def tuS : TypeId → Bool := fun t => t == 61 || t == 41
set_option maxRecDepth 100000 in
set_option maxHeartbeats 4000000 in
theorem appendSeqS_any (H : List Sig) (mh n1 Bk : Nat) (D1 : DataW Unit) (w : World) (hB1 : w.heap[Bk]? = some (.cells #[.map (some mh)] 54 (0, 0))) (ho1 : w.ownsMap Tryz.prog 41 slE mh n1 D1) (hd1 : SetD sigB D1 H) (hk1 : ∀ s ∈ H, SigOk s) (hlen : H.length ≤ 1000000000) :
    Calls Tryz.prog 95 #[.slice none 0 0, .func (.func 96) #[] #[.pointer (some ⟨Bk, 0, none⟩)]] w fun e w' => ∃ (v : Value) (xs : List Sig), e = .returned v ∧ (∀ x, x ∈ xs ↔ x ∈ H) ∧ xs.Nodup ∧ xs.length ≤ H.length ∧ w'.ownsRow w.heap.size 41 2 v xs.length (xs.flatMap sgCs) ∧ Below w.heap.size w w' := by
  obtain ⟨i0, hi, hz0, hz1, hz2⟩ := info_parts info_Sel
  have hkl := (Array.getElem?_eq_some_iff.1 hB1).1
  have hml := ho1.lt
  refine (callsIn_wide (n := 0)).1 ?_
  refine callsIn_of_wp_marks Tryz.func95 rfl trivial ?_ rfl
  simp only [Tryz.ntmps95, List.size_toArray, List.length_cons, List.length_nil, Nat.reduceAdd, Nat.reduceSub, Array.replicate_succ, Array.replicate_zero, List.push_toArray, List.append_toArray, List.nil_append, List.cons_append]
  have hdd : ∀ k : Nat, (Fence.wide.depth.isSome = true → 1 ≤ k) := fun k h => by cases h
  have hro : Fence.wide.round = none := rfl
  gi_wp2
  obtain ⟨w1, hw1⟩ : ∃ w1, w.alloc (.cells #[.slice none 0 0] 61) = w1 := ⟨_, rfl⟩
  have hb1 : Below w.heap.size w w1 := by rw [← hw1]; exact (Below.refl _ _).alloc (Nat.le_refl _) _
  have hs1 : w1.heap.size = w.heap.size + 1 := by rw [← hw1]; simp
  have hx1 : w1.heap[w.heap.size]? = some (.cells #[.slice none 0 0] 61 (0, 0)) := by rw [← hw1]; exact World.alloc_heap_new _ _
  rw [hw1]
  clear hw1
  obtain ⟨f, lb, hfe, hent, hseq⟩ := keysS_seq (n₀ := w.heap.size) (Tu := tuS) (Mu := fun _ => false) rfl H mh n1 D1 w1 (by omega) (fun _ h => by cases h) Bk ((hb1.block _ hkl).trans hB1) (ownsMap_same ho1 (hb1.block _ hml)) hd1 hk1 rfl
  simp only [Value.func.injEq, Fn.func.injEq, true_and] at hfe
  obtain ⟨rfl, rfl⟩ := hfe
  have HB1 := Lib.hid hb1
  clear hB1 ho1 hd1
  refine range_t (encs := fun x : Sig => #[sgV x]) (Ti := noT) (n₀ := w.heap.size) (Tu := tuS) (Mu := fun _ => false) rfl hent (by omega) (hseq (0 - 1)) (fun _ => rfl)
    (fun pre X => ∃ v, X.heap[w.heap.size]? = some (.cells #[v] 61 (0, 0)) ∧ X.ownsRow (w.heap.size + 1) 41 2 v pre.length (pre.flatMap sgCs) ∧ KeepU w.heap.size tuS (fun _ => false) w1 X ∧ w1.heap.size ≤ X.heap.size)
    (fun _ _ _ => False)
    (fun s X Y ⟨v, h1, h2, h3, h4⟩ hst => ⟨v, hst.block _ _ h1 (Or.inl (by omega)), ownsRow_same h2 (fun g cs f _ h => hst.block _ _ h (Or.inr ⟨_, _, _, rfl, rfl⟩)), h3.step (Nat.le_refl _) (by omega) hst h4, Nat.le_trans h4 hst.size⟩)
    (fun _ _ _ _ h _ => h.elim)
    ⟨_, hx1, World.ownsRow_nil _ _ _ _, KeepU.refl _ _ _ _, Nat.le_refl _⟩
    (fun x a' X => ∃ Bx, w1.heap.size ≤ Bx ∧ X.heap[Bx]? = some (.cells (sgCs x).toArray 41 (0, 0)) ∧
      a' = { tmps := #[.slice none 0 0, .func (.func 96) #[] #[.pointer (some ⟨Bk, 0, none⟩)], .pointer (some ⟨w.heap.size, 0, none⟩), undef, .slice none 0 0, .pointer (some ⟨Bx, 0, none⟩), .func (.func 96) #[] #[.pointer (some ⟨Bk, 0, none⟩)], sgV x, undef, undef, undef, undef, undef], defers := [] })
    (fun x a' _ X Y ⟨Bx, h1, h2, h3⟩ hst => ⟨Bx, h1, hst.block _ _ h2 (Or.inr ⟨_, _, _, rfl, rfl⟩), h3⟩) ?assign ?body ?done (fun _ _ _ _ _ _ h => h.elim)
  case assign =>
    rintro m' l' pre ⟨p, q⟩ X K' ⟨v, h1, h2, h3, h4⟩ hK'
    have hK2 := hK' _ _ ((KeepsOthers.alloc _ _).from _) (KeepU.alloc _ _ (by omega) (.cells #[.string p, .int .i64 q] 41)) ⟨v, (Below.heap_alloc _ _ _ (by omega)).trans h1, ownsRow_same h2 (fun g cs f _ h => (Below.heap_alloc _ _ _ (Array.getElem?_eq_some_iff.1 h).1).trans h), h3.trans (KeepU.alloc _ _ (by omega) _), by simp; omega⟩ ⟨X.heap.size, h4, World.alloc_heap_new _ _, rfl⟩
    have HK2 := Lib.hid hK2
    clear hK' hK2 h1 h2 h3
    simp only [sgV]
    gi_wp2
    exact HK2.out
  case body =>
    rintro m' l' pre ⟨p, q⟩ a2 X hl hrec ⟨v, h1, h2, h3, h4⟩ ⟨Bx, hBx, hbx, rfl⟩ hlt' hXx
    obtain ⟨va, vc, rfl⟩ := ownsRow_slice h2
    have hoq := ownsRow_block h2
    have z0 := cells_at h1 0 _ rfl
    replace hbx : X.heap[Bx]? = some (.cells #[.string p, .int .i64 q] 41 (0, 0)) := hbx
    have y0 := cells_at hbx 0 _ rfl
    have y1 := cells_at hbx 1 _ rfl
    have hbl := (Array.getElem?_eq_some_iff.1 h1).1
    obtain ⟨X1, hX1⟩ : ∃ X1, X.alloc (.cells #[.string p, .int .i64 q] 41) = X1 := ⟨_, rfl⟩
    have hb2 : Below X.heap.size X X1 := by rw [← hX1]; exact (Below.refl _ _).alloc (Nat.le_refl _) _
    have hx2 : X1.heap[X.heap.size]? = some (.cells #[.string p, .int .i64 q] 41 (0, 0)) := by rw [← hX1]; exact World.alloc_heap_new _ _
    have hs2 : X.heap.size < X1.heap.size := by rw [← hX1]; simp
    have hrow1 : X1.ownsRow (w.heap.size + 1) 41 2 (.slice va pre.length vc) pre.length (pre.flatMap sgCs) := ownsRow_same h2 (fun g cs f _ h => (hb2.block _ (Array.getElem?_eq_some_iff.1 h).1).trans h)
    have hbox1 := (hb2.block _ hbl).trans h1
    have hlen2 : pre.length < 1000000000 := by omega
    have HROW := Lib.hid hrow1
    have HOQ := Lib.hid hoq
    have HB2 := Lib.hid hb2
    have HX2 := Lib.hid hx2
    have HBOX := Lib.hid hbox1
    have HK3 := Lib.hid h3
    clear h1 h2 h3 hbx hrow1 hb2 hx2 hbox1 hoq hXx hseq hent
    simp only [sgV]
    gi_wp2_with (gi_at_builtin; refine wpListIn_append_own_at _ rfl _ _ 61 rfl (w.heap.size + 1) 41 i0 _ 2 24 Tryz.underlying61 hi hz0 hz1 hz2 rfl (by decide) _ _ _ rfl HROW.out ⟨X.heap.size, 0, none⟩ 1 1 [.string p, .int .i64 q] rfl rfl ?c1 ?c2 ?c3 ?c4 ?c5 ?_)
    case c1 =>
      intro jj u hu
      have h := cells_at HX2.out jj u (by simpa using hu)
      cases jj <;> simpa [Addr.add] using h
    case c2 => simp [Value.oneCell']
    case c3 => unfold maxLen; omega
    case c4 => omega
    case c5 => omega
    intro v' w4 hown4 hg4 hnil hat
    obtain ⟨va', vc', rfl⟩ := ownsRow_slice hown4
    have hbox4 := (hg4.block w.heap.size (by omega) (fun e => by have := (HOQ.out _ e.symm).1; omega)).trans HBOX.out
    have zb := cells_at hbox4 0 _ rfl
    have hfz : w4.frozen? ⟨w.heap.size, 0, none⟩ = false := by simp [World.frozen?, hbox4]
    have hsz4 := hg4.size
    have hk4 : KeepU w.heap.size tuS (fun _ => false) X w4 := (KeepU.of_below (by omega) HB2.out).trans (keep_app hg4 (fun g e => by
      obtain ⟨q1, cs, q2⟩ := HOQ.out g e
      exact ⟨by omega, cs, (HB2.out.block _ (Array.getElem?_eq_some_iff.1 q2).1).trans q2⟩) (t := 41) (by decide) (by omega))
    have hk5 : KeepU w.heap.size tuS (fun _ => false) X (w4.setCell ⟨w.heap.size, 0, none⟩ (.slice va' (pre.length + 1) vc')) := hk4.trans (keep_set (.slice va' (pre.length + 1) vc') hbox4 (by decide) (Nat.le_refl _))
    have hown5 : (w4.setCell ⟨w.heap.size, 0, none⟩ (.slice va' (pre.length + 1) vc')).ownsRow (w.heap.size + 1) 41 2 (.slice va' (pre.length + 1) vc') (pre ++ [(p, q)]).length ((pre ++ [(p, q)]).flatMap sgCs) := by
      refine ownsRow_same (by simpa [List.flatMap_append, sgCs] using hown4) fun g cs f e h => ?_
      have := (ownsRow_block hown4 g e).1
      exact (Below.heap_setCell _ _ _ g (by simp; omega)).trans h
    have hbox5 := box_set (.slice va' (pre.length + 1) vc') hbox4
    have HF := Lib.hid (show KeepU w.heap.size tuS (fun _ => false) X (w4.setCell ⟨w.heap.size, 0, none⟩ (.slice va' (pre.length + 1) vc')) ∧ _ from ⟨hk5, hbox5⟩)
    have HR5 := Lib.hid hown5
    clear hown4 hg4 hnil hat hbox4 hk4 hk5 hown5 hbox5
    gi_wp2
    exact ⟨HF.out.1.from (fun _ h => by cases h), HF.out.1, _, HF.out.2, HR5.out, HK3.out.trans HF.out.1, by have := HF.out.1.size; omega⟩
  case done =>
    rintro D' xs X hD ⟨hx1, hx2, hx3⟩ ⟨v, h1, h2, h3, h4⟩ hDX
    have HM := Lib.hid ((Marked.nil w.heap.size X).cons hDX (by omega) (by simp))
    have z0 := cells_at h1 0 _ rfl
    have HX1 := Lib.hid hx1
    have HX2 := Lib.hid hx2
    have HX3 := Lib.hid hx3
    have HR := Lib.hid h2
    have HK := Lib.hid h3
    clear hx1 hx2 hx3 h1 h2 h3 hDX hseq hent
    rw [marks_nil, marks_cons]
    gi_wp2
    show LeavesInM Fence.wide 0 Tryz.prog _ _ _ (marks [D']) .returning X
    refine leaves_swept [D'] X HM.out fun W' hW' => ⟨_, results_tmp rfl _ _ _, v, xs, rfl, HX1.out, HX2.out, HX3.out, ?_, (HB1.out.trans HK.out.low).trans hW'.below⟩
    obtain ⟨q1, q2⟩ := ownsRow_same HR.out (fun g cs f _ h => hW'.same g _ h rfl)
    refine ⟨q1, q2.imp id fun ⟨g, cap, cur, r1, r2, r3⟩ => ⟨g, cap, cur, r1, by omega, r3⟩⟩
theorem collectS_any (H : List Sig) (mh n1 Bk : Nat) (D1 : DataW Unit) (w : World) (hB1 : w.heap[Bk]? = some (.cells #[.map (some mh)] 54 (0, 0))) (ho1 : w.ownsMap Tryz.prog 41 slE mh n1 D1) (hd1 : SetD sigB D1 H) (hk1 : ∀ s ∈ H, SigOk s) (hlen : H.length ≤ 1000000000) :
    Calls Tryz.prog 64 #[.func (.func 96) #[] #[.pointer (some ⟨Bk, 0, none⟩)]] w fun e w' => ∃ (v : Value) (xs : List Sig), e = .returned v ∧ (∀ x, x ∈ xs ↔ x ∈ H) ∧ xs.Nodup ∧ xs.length ≤ H.length ∧ w'.ownsRow w.heap.size 41 2 v xs.length (xs.flatMap sgCs) ∧ Below w.heap.size w w' := by
  have h := appendSeqS_any H mh n1 Bk D1 w hB1 ho1 hd1 hk1 hlen
  have HA := Lib.hid h
  clear h hB1 ho1 hd1 hk1
  go_enter Tryz.func64, Tryz.ntmps64
  go_wp2_with (go_at_call 95; refine HA.out.mono ?_; rintro e w' ⟨v, xs, rfl, h1⟩; have H1 := Lib.hid h1; clear h1)
  go_ret
  exact ⟨v, xs, rfl, H1.out⟩
end Go.Proofs.YtcoieohbmkjpoaaGreatDoor
namespace Go.Proofs.YtcoieohbmkjpoaaGreatDoor
open Go.RowKit Go.Shelf Go.Maps
attribute [local go_sem] Oper.semAt_some

/-- How signatures compare. -/
def cmpG (x y : Sig) : Int := orI (strCmp x.1 y.1) (Lib.compareInt x.2 y.2)
theorem cmpG_sg (x y : Sig) : Sg (cmpG x y) := (by rw [strCmp_eq]; exact byC_sg _ _ : Sg (strCmp x.1 y.1)).or (int_sg _ _)
theorem cmpG_neg (x y : Sig) : cmpG y x = -cmpG x y := orI_neg (by rw [strCmp_eq, strCmp_eq]; exact byC_neg _ _) (fun _ => int_neg _ _)
theorem cmpG_zero (x y : Sig) : cmpG x y = 0 ↔ x = y := by
  unfold cmpG
  rw [orI_zero, strCmp_eq, byC_zero, str_inj, int_zero]
  exact ⟨fun h => Prod.ext h.1 (by omega), fun h => by subst h; exact ⟨rfl, rfl⟩⟩
set_option maxRecDepth 100000 in
set_option maxHeartbeats 4000000 in
theorem compareG_any (x y : Sig) (w : World) : Calls Tryz.prog 102 #[.agg #[.string x.1, .int .i64 x.2], .agg #[.string y.1, .int .i64 y.2]] w fun e w' => e = .returned (.int .i64 (cmpG x y)) ∧ Grew w w' := by
  obtain ⟨p, n⟩ := x
  obtain ⟨q, k⟩ := y
  change Calls Tryz.prog 102 #[.agg #[.string p, .int .i64 n], .agg #[.string q, .int .i64 k]] w _
  obtain ⟨W1, hW1⟩ : ∃ W1, (w.alloc (.cells #[.string p, .int .i64 n] 41)).alloc (.cells #[.string q, .int .i64 k] 41) = W1 := ⟨_, rfl⟩
  have hB : Grew w W1 := by rw [← hW1]; exact (Grew.alloc _ _).trans (Grew.alloc _ _)
  have hx : W1.heap[w.heap.size]? = some (.cells #[.string p, .int .i64 n] 41 (0, 0)) := by rw [← hW1]; exact (Below.heap_alloc _ _ _ (by simp)).trans (World.alloc_heap_new _ _)
  have hy : W1.heap[w.heap.size + 1]? = some (.cells #[.string q, .int .i64 k] 41 (0, 0)) := by
    rw [← hW1]; have := World.alloc_heap_new (w.alloc (.cells #[.string p, .int .i64 n] 41)) (.cells #[.string q, .int .i64 k] 41); rwa [World.size_alloc] at this
  have HB := Lib.hid hB
  have HX := Lib.hid hx
  have HY := Lib.hid hy
  clear hB hx hy
  go_enter Tryz.func102, Tryz.ntmps102
  go_wp2_with fail
  try rw [hW1]
  clear hW1
  have hst := @FL_grow [fV (.pointer (some ⟨w.heap.size, 0, none⟩)), fV (.string p), fV (.pointer (some ⟨w.heap.size + 1, 0, none⟩)), fV (.string q), fV (.int .i64 (strCmp p q)), fV (.pointer (some ⟨w.heap.size, 1, none⟩)), fV (.int .i64 n), fV (.pointer (some ⟨w.heap.size + 1, 1, none⟩)), fV (.int .i64 k), fV (.int .i64 (Lib.compareInt n k))] (by
    intro F hF
    simp only [List.mem_cons, List.not_mem_nil, or_false] at hF
    rcases hF with rfl | rfl | rfl | rfl | rfl | rfl | rfl | rfl | rfl | rfl <;> first | exact fV_stays _)
  refine wp_region_grow_tailW (by kernel_rfl) 10 (FL [fV (.pointer (some ⟨w.heap.size, 0, none⟩)), fV (.string p), fV (.pointer (some ⟨w.heap.size + 1, 0, none⟩)), fV (.string q), fV (.int .i64 (strCmp p q)), fV (.pointer (some ⟨w.heap.size, 1, none⟩)), fV (.int .i64 n), fV (.pointer (some ⟨w.heap.size + 1, 1, none⟩)), fV (.int .i64 k), fV (.int .i64 (Lib.compareInt n k))]) hst (by kernel_rfl) (by kernel_rfl) (steps_toW ?_) ?_
  · simp only [List.take_succ_cons, List.take_zero]
    refine ⟨?_, ?_, ?_, ?_, ?_, ?_, ?_, ?_, ?_, ?_, trivial⟩
    · intro a wx hb hd hs ho hp
      refine ⟨rfl, ?_⟩
      have h2 : a.tmps.getD 2 undef = .pointer (some ⟨w.heap.size, 0, none⟩) := (ho 2 (by kernel_rfl)).trans rfl
      unfold Oper.wp
      go_simp
      exact SteppedW.at (v := .pointer (some ⟨w.heap.size, 0, none⟩)) (by first | rfl | simp) hd (Grew.refl _) rfl
    · intro a wx hb hd hs ho hp
      refine ⟨rfl, ?_⟩
      have h5 : a.tmps.getD 5 undef = .pointer (some ⟨w.heap.size, 0, none⟩) := facts_at hp 0 5 (by kernel_rfl)
      have hx := (hb.low.block w.heap.size (Array.getElem?_eq_some_iff.1 HX.out).1).trans HX.out
      have x0 := cells_at hx 0 _ rfl
      unfold Oper.wp
      go_simp
      exact SteppedW.at (v := .string p) (by first | rfl | simp) hd (Grew.refl _) rfl
    · intro a wx hb hd hs ho hp
      refine ⟨rfl, ?_⟩
      have h3 : a.tmps.getD 3 undef = .pointer (some ⟨w.heap.size + 1, 0, none⟩) := (ho 3 (by kernel_rfl)).trans rfl
      unfold Oper.wp
      go_simp
      exact SteppedW.at (v := .pointer (some ⟨w.heap.size + 1, 0, none⟩)) (by first | rfl | simp) hd (Grew.refl _) rfl
    · intro a wx hb hd hs ho hp
      refine ⟨rfl, ?_⟩
      have h7 : a.tmps.getD 7 undef = .pointer (some ⟨w.heap.size + 1, 0, none⟩) := facts_at hp 2 7 (by kernel_rfl)
      have hx := (hb.low.block (w.heap.size + 1) (Array.getElem?_eq_some_iff.1 HY.out).1).trans HY.out
      have x0 := cells_at hx 0 _ rfl
      unfold Oper.wp
      go_simp
      exact SteppedW.at (v := .string q) (by first | rfl | simp) hd (Grew.refl _) rfl
    · intro a wx hb hd hs ho hp
      refine ⟨rfl, ?_⟩
      have h6 : a.tmps.getD 6 undef = .string p := facts_at hp 1 6 (by kernel_rfl)
      have h8 : a.tmps.getD 8 undef = .string q := facts_at hp 3 8 (by kernel_rfl)
      unfold Oper.wp
      go_simp
      refine (compareString_q p q wx).mono ?_
      rintro e w9 ⟨rfl, rfl⟩
      exact SteppedW.at (v := .int .i64 (strCmp p q)) (by first | rfl | simp) hd (Grew.refl _) rfl
    · intro a wx hb hd hs ho hp
      refine ⟨rfl, ?_⟩
      have h2 : a.tmps.getD 2 undef = .pointer (some ⟨w.heap.size, 0, none⟩) := (ho 2 (by kernel_rfl)).trans rfl
      unfold Oper.wp
      go_simp
      exact SteppedW.at (v := .pointer (some ⟨w.heap.size, 1, none⟩)) (by first | rfl | simp) hd (Grew.refl _) rfl
    · intro a wx hb hd hs ho hp
      refine ⟨rfl, ?_⟩
      have h10 : a.tmps.getD 10 undef = .pointer (some ⟨w.heap.size, 1, none⟩) := facts_at hp 5 10 (by kernel_rfl)
      have hx := (hb.low.block w.heap.size (Array.getElem?_eq_some_iff.1 HX.out).1).trans HX.out
      have x1 := cells_at hx 1 _ rfl
      unfold Oper.wp
      go_simp
      exact SteppedW.at (v := .int .i64 n) (by first | rfl | simp) hd (Grew.refl _) rfl
    · intro a wx hb hd hs ho hp
      refine ⟨rfl, ?_⟩
      have h3 : a.tmps.getD 3 undef = .pointer (some ⟨w.heap.size + 1, 0, none⟩) := (ho 3 (by kernel_rfl)).trans rfl
      unfold Oper.wp
      go_simp
      exact SteppedW.at (v := .pointer (some ⟨w.heap.size + 1, 1, none⟩)) (by first | rfl | simp) hd (Grew.refl _) rfl
    · intro a wx hb hd hs ho hp
      refine ⟨rfl, ?_⟩
      have h12 : a.tmps.getD 12 undef = .pointer (some ⟨w.heap.size + 1, 1, none⟩) := facts_at hp 7 12 (by kernel_rfl)
      have hx := (hb.low.block (w.heap.size + 1) (Array.getElem?_eq_some_iff.1 HY.out).1).trans HY.out
      have x1 := cells_at hx 1 _ rfl
      unfold Oper.wp
      go_simp
      exact SteppedW.at (v := .int .i64 k) (by first | rfl | simp) hd (Grew.refl _) rfl
    · intro a wx hb hd hs ho hp
      refine ⟨rfl, ?_⟩
      have h11 : a.tmps.getD 11 undef = .int .i64 n := facts_at hp 6 11 (by kernel_rfl)
      have h13 : a.tmps.getD 13 undef = .int .i64 k := facts_at hp 8 13 (by kernel_rfl)
      unfold Oper.wp
      go_simp
      refine (Tryz.cmp_Compare_int n k wx).mono ?_
      rintro e w9 ⟨rfl, rfl⟩
      exact SteppedW.at (v := .int .i64 (Lib.compareInt n k)) (by first | rfl | simp) hd (Grew.refl _) rfl
  intro ac W2 hBelow hDefers hTmps hOuter hf
  obtain ⟨u5, f5⟩ : ∃ u, ac.tmps.getD 5 undef = u := ⟨_, rfl⟩
  obtain ⟨u6, f6⟩ : ∃ u, ac.tmps.getD 6 undef = u := ⟨_, rfl⟩
  obtain ⟨u7, f7⟩ : ∃ u, ac.tmps.getD 7 undef = u := ⟨_, rfl⟩
  obtain ⟨u8, f8⟩ : ∃ u, ac.tmps.getD 8 undef = u := ⟨_, rfl⟩
  have f9 : ac.tmps.getD 9 undef = .int .i64 (strCmp p q) := facts_toW hf 4 9 (by decide) (by kernel_rfl)
  obtain ⟨u10, f10⟩ : ∃ u, ac.tmps.getD 10 undef = u := ⟨_, rfl⟩
  obtain ⟨u11, f11⟩ : ∃ u, ac.tmps.getD 11 undef = u := ⟨_, rfl⟩
  obtain ⟨u12, f12⟩ : ∃ u, ac.tmps.getD 12 undef = u := ⟨_, rfl⟩
  obtain ⟨u13, f13⟩ : ∃ u, ac.tmps.getD 13 undef = u := ⟨_, rfl⟩
  have f14 : ac.tmps.getD 14 undef = .int .i64 (Lib.compareInt n k) := facts_toW hf 9 14 (by decide) (by kernel_rfl)
  obtain ⟨TT, DD⟩ := ac
  obtain rfl : DD = [] := hDefers
  have hE := slots_mergeR [false, false, false, false, false, true, true, true, true, true, true, true, true, true, true, false, false] 17 hTmps rfl (by kernel_rfl) hOuter
  simp only [mergeFrom, Nat.zero_add, Nat.reduceAdd, f5, f6, f7, f8, f9, f10, f11, f12, f13, f14] at hE
  clear hst hf hOuter hTmps f5 f6 f7 f8 f9 f10 f11 f12 f13 f14
  subst hE
  simp only [List.drop_succ_cons, List.drop_zero]
  obtain ⟨W3, hW3⟩ : ∃ W3, W2.alloc (.cells #[.int .i64 (strCmp p q), .int .i64 (Lib.compareInt n k)] 3) = W3 := ⟨_, rfl⟩
  have hq3 : W3.heap[W2.heap.size]? = some (.cells #[.int .i64 (strCmp p q), .int .i64 (Lib.compareInt n k)] 3 (0, 0)) := by rw [← hW3]; exact World.alloc_heap_new _ _
  have HO := Lib.hid (or_two W2.heap.size (strCmp p q) (Lib.compareInt n k) 2 W3 (cells_at hq3 0 _ rfl) (cells_at hq3 1 _ rfl))
  have HG3 := Lib.hid ((HB.out.trans hBelow).trans (show Grew W2 W3 by rw [← hW3]; exact Grew.alloc _ _))
  clear hq3 hBelow HX HY
  go_wp2_with (go_at_call 43; refine HO.out.mono ?_; rintro e w9 ⟨rfl, rfl⟩)
  go_ret
  exact ⟨rfl, HG3.out⟩
set_option maxHeartbeats 1000000 in
theorem less_any (x y : Sig) (w : World) : Calls Tryz.prog 68 #[.agg #[.string x.1, .int .i64 x.2], .agg #[.string y.1, .int .i64 y.2]] w fun e w' => e = .returned (.bool (decide (cmpG x y < 0))) ∧ Grew w w' := by
  obtain ⟨p, n⟩ := x
  obtain ⟨q, k⟩ := y
  change Calls Tryz.prog 68 #[.agg #[.string p, .int .i64 n], .agg #[.string q, .int .i64 k]] w _
  go_enter Tryz.func68, Tryz.ntmps68
  have hB : Grew w ((w.alloc (.cells #[.string p, .int .i64 n] 41)).alloc (.cells #[.string q, .int .i64 k] 41)) := (Grew.alloc _ _).trans (Grew.alloc _ _)
  have HB := Lib.hid hB
  clear hB
  go_wp2_with (go_at_call 102; refine (compareG_any (p, n) (q, k) _).mono ?_; rintro e w9 ⟨rfl, hg⟩; have HG9 := Lib.hid hg; clear hg)
  go_returns
  exact ⟨rfl, HB.out.trans HG9.out⟩
set_option maxRecDepth 100000 in
set_option maxHeartbeats 4000000 in
theorem sigsLess_any (bx g N c : Nat) (x y : Sig) (i k : Nat) (w : World) (hb : w.heap[bx]? = some (.cells #[.slice (some ⟨g, 0, none⟩) N c] 61 (0, 0))) (hi : i < N) (hk : k < N) (hN : N ≤ 1000000000)
    (y0 : w.cell? ⟨g, i * 2, none⟩ = some (.string x.1)) (y1 : w.cell? ⟨g, i * 2 + 1, none⟩ = some (.int .i64 x.2)) (z0 : w.cell? ⟨g, k * 2, none⟩ = some (.string y.1)) (z1 : w.cell? ⟨g, k * 2 + 1, none⟩ = some (.int .i64 y.2)) :
    Calls Tryz.prog 67 #[.int .i64 i, .int .i64 k, .pointer (some ⟨bx, 0, none⟩)] w fun e w' => e = .returned (.bool (decide (cmpG x y < 0))) ∧ Grew w w' := by
  obtain ⟨p, m⟩ := x
  obtain ⟨q, l⟩ := y
  have HX := Lib.hid hb
  have Y0 := Lib.hid y0
  have Y1 := Lib.hid y1
  have Z0 := Lib.hid z0
  have Z1 := Lib.hid z1
  have i1 : (i : Int) < (N : Int) := by omega
  have i2 : (0 : Int) ≤ (i : Int) := by omega
  have i3 : (k : Int) < (N : Int) := by omega
  have i4 : (0 : Int) ≤ (k : Int) := by omega
  have hli : (N : Int) ≤ 9223372036854775807 := by omega
  clear hb y0 y1 z0 z1
  go_enter Tryz.func67, Tryz.ntmps67
  go_wp2_with fail
  have hst := @FL_grow [fV (.slice (some ⟨g, 0, none⟩) N c), fV (.int .i64 i), fV (.pointer (some ⟨g, i * 2, none⟩)), fV (.agg #[.string p, .int .i64 m]), fV (.slice (some ⟨g, 0, none⟩) N c), fV (.int .i64 k), fV (.pointer (some ⟨g, k * 2, none⟩)), fV (.agg #[.string q, .int .i64 l])] (by
    intro F hF
    simp only [List.mem_cons, List.not_mem_nil, or_false] at hF
    rcases hF with rfl | rfl | rfl | rfl | rfl | rfl | rfl | rfl <;> first | exact fV_stays _)
  refine wp_region_grow_tailW (by kernel_rfl) 8 (FL [fV (.slice (some ⟨g, 0, none⟩) N c), fV (.int .i64 i), fV (.pointer (some ⟨g, i * 2, none⟩)), fV (.agg #[.string p, .int .i64 m]), fV (.slice (some ⟨g, 0, none⟩) N c), fV (.int .i64 k), fV (.pointer (some ⟨g, k * 2, none⟩)), fV (.agg #[.string q, .int .i64 l])]) hst (by kernel_rfl) (by kernel_rfl) (steps_toW ?_) ?_
  · simp only [List.take_succ_cons, List.take_zero]
    refine ⟨?_, ?_, ?_, ?_, ?_, ?_, ?_, ?_, trivial⟩
    · intro a wx hb hd hs ho hp
      refine ⟨rfl, ?_⟩
      have h2 : a.tmps.getD 2 undef = .pointer (some ⟨bx, 0, none⟩) := (ho 2 (by kernel_rfl)).trans rfl
      have hx := (hb.low.block bx (Array.getElem?_eq_some_iff.1 HX.out).1).trans HX.out
      have x0 := cells_at hx 0 _ rfl
      unfold Oper.wp
      go_simp
      exact SteppedW.at (v := .slice (some ⟨g, 0, none⟩) N c) (by first | rfl | simp) hd (Grew.refl _) rfl
    · intro a wx hb hd hs ho hp
      refine ⟨rfl, ?_⟩
      have h0 : a.tmps.getD 0 undef = .int .i64 i := (ho 0 (by kernel_rfl)).trans rfl
      unfold Oper.wp
      go_simp
      exact SteppedW.at (v := .int .i64 i) (by first | rfl | simp) hd (Grew.refl _) rfl
    · intro a wx hb hd hs ho hp
      refine ⟨rfl, ?_⟩
      have h6 : a.tmps.getD 6 undef = .slice (some ⟨g, 0, none⟩) N c := facts_at hp 0 6 (by kernel_rfl)
      have h7 : a.tmps.getD 7 undef = .int .i64 i := facts_at hp 1 7 (by kernel_rfl)
      unfold Oper.wp
      go_simp
      exact SteppedW.at (v := .pointer (some ⟨g, i * 2, none⟩)) (by first | rfl | simp) hd (Grew.refl _) rfl
    · intro a wx hb hd hs ho hp
      refine ⟨rfl, ?_⟩
      have h8 : a.tmps.getD 8 undef = .pointer (some ⟨g, i * 2, none⟩) := facts_at hp 2 8 (by kernel_rfl)
      have s8 := qslot_of (hs.trans (rfl : _ = 15)) (by decide) h8
      have x0 := (hb.low.cell (p := ⟨g, i * 2, none⟩) (block_lt_of_cell Y0.out)).trans Y0.out
      have x1 := (hb.low.cell (p := ⟨g, i * 2 + 1, none⟩) (block_lt_of_cell Y1.out)).trans Y1.out
      unfold Oper.wp
      go_simp
      exact SteppedW.at (v := .agg #[.string p, .int .i64 m]) (by first | rfl | simp) hd (Grew.refl _) rfl
    · intro a wx hb hd hs ho hp
      refine ⟨rfl, ?_⟩
      have h2 : a.tmps.getD 2 undef = .pointer (some ⟨bx, 0, none⟩) := (ho 2 (by kernel_rfl)).trans rfl
      have hx := (hb.low.block bx (Array.getElem?_eq_some_iff.1 HX.out).1).trans HX.out
      have x0 := cells_at hx 0 _ rfl
      unfold Oper.wp
      go_simp
      exact SteppedW.at (v := .slice (some ⟨g, 0, none⟩) N c) (by first | rfl | simp) hd (Grew.refl _) rfl
    · intro a wx hb hd hs ho hp
      refine ⟨rfl, ?_⟩
      have h1 : a.tmps.getD 1 undef = .int .i64 k := (ho 1 (by kernel_rfl)).trans rfl
      unfold Oper.wp
      go_simp
      exact SteppedW.at (v := .int .i64 k) (by first | rfl | simp) hd (Grew.refl _) rfl
    · intro a wx hb hd hs ho hp
      refine ⟨rfl, ?_⟩
      have h10 : a.tmps.getD 10 undef = .slice (some ⟨g, 0, none⟩) N c := facts_at hp 4 10 (by kernel_rfl)
      have h11 : a.tmps.getD 11 undef = .int .i64 k := facts_at hp 5 11 (by kernel_rfl)
      unfold Oper.wp
      go_simp
      exact SteppedW.at (v := .pointer (some ⟨g, k * 2, none⟩)) (by first | rfl | simp) hd (Grew.refl _) rfl
    · intro a wx hb hd hs ho hp
      refine ⟨rfl, ?_⟩
      have h12 : a.tmps.getD 12 undef = .pointer (some ⟨g, k * 2, none⟩) := facts_at hp 6 12 (by kernel_rfl)
      have s12 := qslot_of (hs.trans (rfl : _ = 15)) (by decide) h12
      have x0 := (hb.low.cell (p := ⟨g, k * 2, none⟩) (block_lt_of_cell Z0.out)).trans Z0.out
      have x1 := (hb.low.cell (p := ⟨g, k * 2 + 1, none⟩) (block_lt_of_cell Z1.out)).trans Z1.out
      unfold Oper.wp
      go_simp
      exact SteppedW.at (v := .agg #[.string q, .int .i64 l]) (by first | rfl | simp) hd (Grew.refl _) rfl
  intro ac W2 hBelow hDefers hTmps hOuter hf
  obtain ⟨u6, f6⟩ : ∃ u, ac.tmps.getD 6 undef = u := ⟨_, rfl⟩
  obtain ⟨u7, f7⟩ : ∃ u, ac.tmps.getD 7 undef = u := ⟨_, rfl⟩
  obtain ⟨u8, f8⟩ : ∃ u, ac.tmps.getD 8 undef = u := ⟨_, rfl⟩
  have f9 : ac.tmps.getD 9 undef = .agg #[.string p, .int .i64 m] := facts_toW hf 3 9 (by decide) (by kernel_rfl)
  obtain ⟨u10, f10⟩ : ∃ u, ac.tmps.getD 10 undef = u := ⟨_, rfl⟩
  obtain ⟨u11, f11⟩ : ∃ u, ac.tmps.getD 11 undef = u := ⟨_, rfl⟩
  obtain ⟨u12, f12⟩ : ∃ u, ac.tmps.getD 12 undef = u := ⟨_, rfl⟩
  have f13 : ac.tmps.getD 13 undef = .agg #[.string q, .int .i64 l] := facts_toW hf 7 13 (by decide) (by kernel_rfl)
  obtain ⟨TT, DD⟩ := ac
  obtain rfl : DD = [] := hDefers
  have hE := slots_mergeR [false, false, false, false, false, false, true, true, true, true, true, true, true, true, false] 15 hTmps rfl (by kernel_rfl) hOuter
  simp only [mergeFrom, Nat.zero_add, Nat.reduceAdd, f6, f7, f8, f9, f10, f11, f12, f13] at hE
  clear hst hf hOuter hTmps f6 f7 f8 f9 f10 f11 f12 f13
  subst hE
  simp only [List.drop_succ_cons, List.drop_zero]
  have HC := Lib.hid (less_any (p, m) (q, l) W2)
  have HG := Lib.hid hBelow
  clear hBelow
  go_wp2_with (go_at_call 68; refine HC.out.mono ?_; rintro e w9 ⟨rfl, hg⟩; have HG9 := Lib.hid hg; clear hg)
  go_ret
  exact ⟨rfl, HG.out.trans HG9.out⟩
end Go.Proofs.YtcoieohbmkjpoaaGreatDoor
namespace Go.Proofs.YtcoieohbmkjpoaaGreatDoor
open Go.RowKit Go.Shelf Go.Maps
attribute [local go_sem] Oper.semAt_some

theorem row_set {W : World} {g i : Nat} {cs : Array Value} {t : TypeId} {f : Nat × Nat} (v : Value) (hb : W.heap[g]? = some (.cells cs t f)) : (W.setCell ⟨g, i, none⟩ v).heap[g]? = some (.cells (cs.setIfInBounds i v) t f) := by
  have hl := (Array.getElem?_eq_some_iff.1 hb).1
  have he : W.heap[g] = .cells cs t f := by rw [Array.getElem?_eq_getElem hl] at hb; exact Option.some.inj hb
  simp [World.setCell, hl, Array.getElem_modify, he]
def row2 (x y : Sig) (rest : List Value) : Array Value := (sgCs x ++ (sgCs y ++ rest)).toArray
theorem row2_swap {W : World} {g : Nat} {x y : Sig} {rest : List Value} {t : TypeId} {f : Nat × Nat} (hb : W.heap[g]? = some (.cells (row2 x y rest) t f)) : ((W.setCells g (0 + 1 * 2) (sgCs x)).setCells g (0 + 0 * 2) (sgCs y)).heap[g]? = some (.cells (row2 y x rest) t f) := by
  have h1 := row_set (i := 2) (.string x.1) hb
  have h2 := row_set (i := 3) (.int .i64 x.2) h1
  have h3 := row_set (i := 0) (.string y.1) h2
  have h4 := row_set (i := 1) (.int .i64 y.2) h3
  simpa [World.setCells, sgCs, row2] using h4
theorem swap_grown (W : World) (g : Nat) (a b : List Value) (i j : Nat) : W.grownBy ((W.setCells g i a).setCells g j b) (some g) := by
  have one : ∀ (vs : List Value) (o : Nat) (W : World), W.grownBy (W.setCells g o vs) (some g) := by
    intro vs
    induction vs with
    | nil => intro o W; exact ⟨rfl, rfl, rfl, Nat.le_refl _, fun _ _ _ => rfl⟩
    | cons v r ih =>
      intro o W
      have h := ih (o + 1) (W.setCell ⟨g, o, none⟩ v)
      refine ⟨h.os, h.tape, h.output, Nat.le_trans (by simp [World.setCell]) h.size, fun k hk hne => ?_⟩
      exact (h.block k (by simpa [World.setCell] using hk) hne).trans (Below.heap_setCell _ _ _ k (by simpa using fun e => hne (by rw [e])))
  have h1 := one a i W
  have h2 := one b j (W.setCells g i a)
  exact ⟨h2.os.trans h1.os, h2.tape.trans h1.tape, h2.output.trans h1.output, Nat.le_trans h1.size h2.size, fun k hk hne => (h2.block k (Nat.lt_of_lt_of_le hk h1.size) hne).trans (h1.block k hk hne)⟩
noncomputable def swV (g c : Nat) : Value := .func (.func 129) #[] #[.slice (some ⟨g, 0, none⟩) 2 c, typeHandle Tryz.prog 41]
set_option maxRecDepth 100000 in
theorem swap2_any (g c : Nat) (x y : Sig) (rest : List Value) (W : World) (hg : W.heap[g]? = some (.cells (row2 x y rest) 41 (0, 0))) :
    (callFunc 129 #[.int .i64 1, .int .i64 0, .slice (some ⟨g, 0, none⟩) 2 c, typeHandle Tryz.prog 41]).run Tryz.prog W = .ok (.value (.tuple #[])) ((W.setCells g (0 + 1 * 2) (sgCs x)).setCells g (0 + 0 * 2) (sgCs y)) := by
  obtain ⟨i0, hi, hz0, hz1, hz2⟩ := info_parts info_Sel
  have hfz : ∀ k : Nat, W.frozen? ⟨g, k, none⟩ = false := fun k => by simp [World.frozen?, hg]
  have cx : ∀ (u : Nat) v, (sgCs x)[u]? = some v → W.cell? ⟨g, 0 + 0 * i0.size + u, none⟩ = some v := fun u v h => by
    refine cells_at hg (0 + 0 * i0.size + u) v ?_
    have hu := (List.getElem?_eq_some_iff.1 h).1
    simp only [row2, List.getElem?_toArray, Nat.zero_mul, Nat.zero_add]
    rw [List.getElem?_append_left hu]; exact h
  have cy : ∀ (u : Nat) v, (sgCs y)[u]? = some v → W.cell? ⟨g, 0 + 1 * i0.size + u, none⟩ = some v := fun u v h => by
    refine cells_at hg (0 + 1 * i0.size + u) v ?_
    have hu := (List.getElem?_eq_some_iff.1 h).1
    simp only [row2, List.getElem?_toArray, hz1]
    rw [List.getElem?_append_right (by simp [sgCs]), List.getElem?_append_left (by simp [sgCs] at hu ⊢; omega)]
    simpa [sgCs] using h
  have h := Lib.run_swap_cells (P := Tryz.prog) false 41 i0 hi (fun w => by kernel_rfl) g 0 2 c 1 0 (by omega) (by omega) (sgCs y) (sgCs x) (by rw [hz1]; rfl) (by rw [hz1]; rfl)
    (by intro v hv; simp only [sgCs, List.mem_cons, List.not_mem_nil, or_false] at hv; rcases hv with rfl | rfl <;> rfl) (by intro v hv; simp only [sgCs, List.mem_cons, List.not_mem_nil, or_false] at hv; rcases hv with rfl | rfl <;> rfl) W cy cx (fun u _ => hfz _) (fun u _ => hfz _)
  rw [run_callFunc_extern Tryz.func129 (by kernel_rfl) (by kernel_rfl) (by kernel_rfl) (e := Extern.ReflectliteSwapper.swap false) (by kernel_rfl)]
  rw [hz1] at h
  have h' : (Extern.ReflectliteSwapper.swap false #[.int .i64 1, .int .i64 0, .slice (some ⟨g, 0, none⟩) 2 c, typeHandle Tryz.prog 41]).run Tryz.prog W = .ok (.tuple #[]) ((W.setCells g (0 + 1 * 2) (sgCs x)).setCells g (0 + 0 * 2) (sgCs y)) := h
  rw [h']
  rfl
/-- Two signatures, sorted. -/
def Two (g : Nat) (x y : Sig) (rest : List Value) (w w' : World) : Prop := ∃ x' y', ((x' = x ∧ y' = y ∧ ¬ cmpG y x < 0) ∨ (x' = y ∧ y' = x ∧ cmpG y x < 0)) ∧ w'.heap[g]? = some (.cells (row2 x' y' rest) 41 (0, 0)) ∧ w.grownBy w' (some g)
theorem grown_some {w w' : World} (h : Below w.heap.size w w') (r : Option Nat) : w.grownBy w' r := ⟨h.os, h.tape, h.output, h.size, fun k hk _ => h.block k hk⟩
set_option maxHeartbeats 4000000 in
set_option maxRecDepth 100000 in
theorem ins2_any (x y : Sig) (g bx c : Nat) (rest : List Value) (w : World) (hg : w.heap[g]? = some (.cells (row2 x y rest) 41 (0, 0))) (hb : w.heap[bx]? = some (.cells #[.slice (some ⟨g, 0, none⟩) 2 c] 61 (0, 0))) :
    Calls Tryz.prog 132 #[.agg #[.func (.func 67) #[] #[.pointer (some ⟨bx, 0, none⟩)], swV g c], .int .i64 0, .int .i64 2] w fun e w' => e = .returned (.tuple #[]) ∧ Two g x y rest w w' := by
  have hsw := fun (W : World) (h : W.heap[g]? = some (.cells (row2 x y rest) 41 (0, 0))) => swap2_any g c x y rest W h
  unfold swV
  obtain ⟨SB, hSB⟩ : ∃ SB, (#[.slice (some ⟨g, 0, none⟩) 2 c, typeHandle Tryz.prog 41] : Array Value) = SB := ⟨_, rfl⟩
  have hsw2 : ∀ (W : World), W.heap[g]? = some (.cells (row2 x y rest) 41 (0, 0)) → (callFunc 129 (#[.int .i64 1, .int .i64 0] ++ SB)).run Tryz.prog W = .ok (.value (.tuple #[])) ((W.setCells g (0 + 1 * 2) (sgCs x)).setCells g (0 + 0 * 2) (sgCs y)) := by rw [← hSB]; exact hsw
  rw [hSB]
  clear hsw hSB
  have HSW := Lib.hid hsw2
  clear hsw2
  obtain ⟨W1, hW1⟩ : ∃ W1, w.alloc (.cells #[.func (.func 67) #[] #[.pointer (some ⟨bx, 0, none⟩)], .func (.func 129) #[] SB] 144) = W1 := ⟨_, rfl⟩
  have hB : Grew w W1 := by rw [← hW1]; exact Grew.alloc _ _
  have hd1 : W1.heap[w.heap.size]? = some (.cells #[.func (.func 67) #[] #[.pointer (some ⟨bx, 0, none⟩)], .func (.func 129) #[] SB] 144 (0, 0)) := by rw [← hW1]; exact World.alloc_heap_new _ _
  have hgl := (Array.getElem?_eq_some_iff.1 hg).1
  have hg1 := (hB.low.block g hgl).trans hg
  have hb1 := (hB.low.block bx (Array.getElem?_eq_some_iff.1 hb).1).trans hb
  have hl : Calls Tryz.prog 67 #[.int .i64 1, .int .i64 0, .pointer (some ⟨bx, 0, none⟩)] W1 fun e w' => e = .returned (.bool (decide (cmpG y x < 0))) ∧ Grew W1 w' :=
    sigsLess_any bx g 2 c y x 1 0 W1 hb1 (by omega) (by omega) (by omega) (cells_at hg1 2 _ rfl) (cells_at hg1 3 _ rfl) (cells_at hg1 0 _ rfl) (cells_at hg1 1 _ rfl)
  have hl0 : W1.heap.size = w.heap.size + 1 := by rw [← hW1]; simp
  have d0 := cells_at hd1 0 _ rfl
  have d1 := cells_at hd1 1 _ rfl
  have HL := Lib.hid hl
  have HG1 := Lib.hid hg1
  have HB := Lib.hid hB
  have HD := Lib.hid hd1
  have HS0 := Lib.hid hl0
  clear hl hg1 hb1 hB hg hb hd1 hl0
  go_enter Tryz.func132, Tryz.ntmps132
  go_wp2
  try rw [hW1]
  clear hW1
  cases hlv : decide (cmpG y x < 0) with
  | false =>
    rw [hlv] at HL
    refine wp_loop_rounds 2 ?_
    rw [rounds_succ]
    go_wp2_with (first | (refine wp_loop_rounds 1 ?_; rw [rounds_succ]))
    refine HL.out.mono ?_
    rintro e w2 ⟨rfl, hg2⟩
    have HG2 := Lib.hid hg2
    clear hg2
    go_wp2
    rw [rounds_succ]
    go_wp2
    go_end0
    exact ⟨rfl, x, y, Or.inl ⟨rfl, rfl, of_decide_eq_false hlv⟩, ((HG2.out.low.block g (by have := HS0.out; omega)).trans HG1.out), grown_some (HB.out.trans HG2.out).low _⟩
  | true =>
    rw [hlv] at HL
    refine wp_loop_rounds 2 ?_
    rw [rounds_succ]
    go_wp2_with (first | (refine wp_loop_rounds 2 ?_; rw [rounds_succ]))
    refine HL.out.mono ?_
    rintro e w2 ⟨rfl, hg2⟩
    have HG2 := Lib.hid hg2
    have e0 := (hg2.low.cell (p := ⟨w.heap.size, 0, none⟩) (block_lt_of_cell d0)).trans d0
    have e1 := (hg2.low.cell (p := ⟨w.heap.size, 1, none⟩) (block_lt_of_cell d1)).trans d1
    have hr2 := ((hg2.low.block g (by have := HS0.out; omega)).trans HG1.out)
    have HR2 := Lib.hid hr2
    have HSX := Lib.hid (HSW.out w2 hr2)
    clear hg2 hr2
    go_wp2
    rw [HSX.out, Oper.upon_value]
    go_wp2
    rw [rounds_succ]
    go_wp2
    rw [rounds_succ]
    go_wp2
    go_end0
    refine ⟨rfl, y, x, Or.inr ⟨rfl, rfl, of_decide_eq_true hlv⟩, row2_swap HR2.out, ?_⟩
    have h1 := grown_some (HB.out.trans HG2.out).low (some g)
    have h2 := swap_grown w2 g (sgCs x) (sgCs y) (0 + 1 * 2) (0 + 0 * 2)
    exact ⟨h2.os.trans h1.os, h2.tape.trans h1.tape, h2.output.trans h1.output, Nat.le_trans h1.size h2.size, fun k hk hne => (h2.block k (Nat.lt_of_lt_of_le hk h1.size) hne).trans (h1.block k hk hne)⟩
end Go.Proofs.YtcoieohbmkjpoaaGreatDoor
namespace Go.Proofs.YtcoieohbmkjpoaaGreatDoor
open Go.RowKit Go.Shelf Go.Maps
attribute [local go_sem] Oper.semAt_some

theorem Two.later {g : Nat} {x y : Sig} {rest : List Value} {w w1 w' : World} (h : Two g x y rest w1 w') (hb : Below w.heap.size w w1) : Two g x y rest w w' := by
  obtain ⟨x', y', h1, h2, h3⟩ := h
  have h4 := grown_some hb (some g)
  exact ⟨x', y', h1, h2, h3.os.trans h4.os, h3.tape.trans h4.tape, h3.output.trans h4.output, Nat.le_trans h4.size h3.size, fun k hk hne => (h3.block k (Nat.lt_of_lt_of_le hk h4.size) hne).trans (h4.block k hk hne)⟩
set_option maxHeartbeats 4000000 in
set_option maxRecDepth 100000 in
theorem pdq2_any (x y : Sig) (g bx c : Nat) (lim : Int) (rest : List Value) (w : World) (hg : w.heap[g]? = some (.cells (row2 x y rest) 41 (0, 0))) (hb : w.heap[bx]? = some (.cells #[.slice (some ⟨g, 0, none⟩) 2 c] 61 (0, 0))) :
    Calls Tryz.prog 101 #[.agg #[.func (.func 67) #[] #[.pointer (some ⟨bx, 0, none⟩)], swV g c], .int .i64 0, .int .i64 2, .int .i64 lim] w fun e w' => e = .returned (.tuple #[]) ∧ Two g x y rest w w' := by
  have hB : Below w.heap.size w (w.alloc (.cells #[.func (.func 67) #[] #[.pointer (some ⟨bx, 0, none⟩)], swV g c] 144)) := (Below.refl _ _).alloc (Nat.le_refl _) _
  have hi := ins2_any x y g bx c rest _ ((hB.block g (Array.getElem?_eq_some_iff.1 hg).1).trans hg) ((hB.block bx (Array.getElem?_eq_some_iff.1 hb).1).trans hb)
  have HB := Lib.hid hB
  obtain ⟨V, hV⟩ : ∃ V, swV g c = V := ⟨_, rfl⟩
  rw [hV] at hi HB ⊢
  have HI := Lib.hid hi
  clear hi hB hg hb
  go_enter Tryz.func101, Tryz.ntmps101
  go_wp2
  refine wp_loop_rounds 1 ?_
  rw [rounds_succ]
  go_wp2_with (go_at_call 132; refine HI.out.mono ?_; rintro e w' ⟨rfl, ht⟩)
  (try simp only [Exit.inBlock, Exit.then])
  refine bodyPost_ret (results_none rfl _ _ _) rfl ?_
  exact ⟨rfl, ht.later HB.out⟩
noncomputable def sgT : TypeInfo := (Tryz.prog.info? 61).get (by kernel_rfl)
noncomputable def sgE : TypeInfo := (Tryz.prog.info? 41).get (by kernel_rfl)
theorem sgK2 (n : Nat) (h2 : 2 ≤ n) : Lib.swapperK n sgE 25 = 9 := by
  have b : sgE.bytes = 24 := by kernel_rfl
  have c : (n == 0) = false := by simp; omega
  have d : (n == 1) = false := by simp; omega
  simp [Lib.swapperK, b, c, d]
theorem slice2_any (x y : Sig) (g bx c : Nat) (rest : List Value) (w : World) (hg : w.heap[g]? = some (.cells (row2 x y rest) 41 (0, 0))) (hb : w.heap[bx]? = some (.cells #[.slice (some ⟨g, 0, none⟩) 2 c] 61 (0, 0))) :
    Calls Tryz.prog 66 #[.iface 61 (.slice (some ⟨g, 0, none⟩) 2 c), .func (.func 67) #[] #[.pointer (some ⟨bx, 0, none⟩)]] w fun e w' => e = .returned (.tuple #[]) ∧ Two g x y rest w w' := by
  refine Any.sort_Slice_of_pdq Tryz.laysGg6 61 41 sgT sgE (by kernel_rfl) (by kernel_rfl) (by kernel_rfl) (by kernel_rfl) 25 (fun _ => by kernel_rfl) (some ⟨g, 0, none⟩) 2 c (by omega) 129 (by rw [sgK2 2 (by omega)]; kernel_rfl) _ #[] _ w _ ?_
  unfold sliceBound
  rw [sgK2 2 (by omega), if_neg (by omega)]
  have hB : Below w.heap.size w (sliceWorld Tryz.prog Tryz.laysGg6_ren 61 (some ⟨g, 0, none⟩) 2 c w) := ((Below.refl _ w).alloc (Nat.le_refl _) _).alloc (by simp) _
  refine (pdq2_any x y g bx c _ rest _ ((hB.block g (Array.getElem?_eq_some_iff.1 hg).1).trans hg) ((hB.block bx (Array.getElem?_eq_some_iff.1 hb).1).trans hb)).mono ?_
  rintro e w' ⟨rfl, ht⟩
  exact ⟨rfl, ht.later hB⟩
theorem slice1_any (p : Option Addr) (n c : Nat) (hn : n ≤ 1) (lf : Fn) (la lb : Array Value) (w : World) :
    Calls Tryz.prog 66 #[.iface 61 (.slice p n c), .func lf la lb] w fun e w' => e = .returned (.tuple #[]) ∧ Below w.heap.size w w' := by
  have hf : ∃ f, Tryz.prog.funcs.findIdx? (·.name == "internal/reflectlite" ++ ".Swapper$" ++ toString (Lib.swapperK n sgE 25)) = some f := by
    rcases (by omega : n = 0 ∨ n = 1) with rfl | rfl
    · exact ⟨121, by kernel_rfl⟩
    · exact ⟨122, by kernel_rfl⟩
  obtain ⟨f, hf⟩ := hf
  refine (Any.sort_Slice_tiny Tryz.laysGg6 61 41 sgT sgE (by kernel_rfl) (by kernel_rfl) (by kernel_rfl) (by kernel_rfl) 25 (fun _ => by kernel_rfl) p n c hn f hf lf la lb w).mono ?_
  rintro e w' ⟨rfl, os, rfl⟩
  exact ⟨rfl, rfl, rfl, rfl, by simp [Go.Sort.grow], fun k hk => by simp [Go.Sort.grow, Array.getElem?_append_left hk]⟩
end Go.Proofs.YtcoieohbmkjpoaaGreatDoor
namespace Go.Proofs.YtcoieohbmkjpoaaGreatDoor
open Go.RowKit Go.Shelf Go.Maps
attribute [local go_sem] Oper.semAt_some

theorem slice_any (xs : List Sig) (hnd : xs.Nodup) (h2 : xs.length ≤ 2) (base bx : Nat) (v : Value) (w : World) (hrow : w.ownsRow base 41 2 v xs.length (xs.flatMap sgCs)) (hbx : w.heap[bx]? = some (.cells #[v] 61 (0, 0))) (hbase : base ≤ w.heap.size) :
    Calls Tryz.prog 66 #[.iface 61 v, .func (.func 67) #[] #[.pointer (some ⟨bx, 0, none⟩)]] w fun e w' => e = .returned (.tuple #[]) ∧ ∃ ys : List Sig, ys.Perm xs ∧ ys.Pairwise (fun a b => cmpG a b < 0) ∧ w'.ownsRow base 41 2 v ys.length (ys.flatMap sgCs) ∧ Below base w w' ∧ w'.heap[bx]? = some (.cells #[v] 61 (0, 0)) := by
  have hbl := (Array.getElem?_eq_some_iff.1 hbx).1
  have short : xs.length ≤ 1 → Calls Tryz.prog 66 #[.iface 61 v, .func (.func 67) #[] #[.pointer (some ⟨bx, 0, none⟩)]] w fun e w' => e = .returned (.tuple #[]) ∧ ∃ ys : List Sig, ys.Perm xs ∧ ys.Pairwise (fun a b => cmpG a b < 0) ∧ w'.ownsRow base 41 2 v ys.length (ys.flatMap sgCs) ∧ Below base w w' ∧ w'.heap[bx]? = some (.cells #[v] 61 (0, 0)) := by
    intro h1
    obtain ⟨a, c, rfl⟩ := ownsRow_slice hrow
    refine (slice1_any a xs.length c h1 _ _ _ w).mono ?_
    rintro e w' ⟨rfl, hb⟩
    refine ⟨rfl, xs, List.Perm.refl _, ?_, ownsRow_same hrow (fun g cs f _ h => (hb.block g (Array.getElem?_eq_some_iff.1 h).1).trans h), hb.mono hbase, (hb.block bx hbl).trans hbx⟩
    match xs, h1 with
    | [], _ => exact List.Pairwise.nil
    | [a], _ => exact List.pairwise_singleton _ _
  match xs, hnd, h2, hrow, short with
  | [], _, _, _, short => exact short (by simp)
  | [a], _, _, _, short => exact short (by simp)
  | [x, y], hnd, _, hrow, _ =>
    obtain ⟨hl, hr⟩ := hrow
    rcases hr with ⟨_, h0⟩ | ⟨g, cap, cur, rfl, q1, q2, q3, q4, q5, q6⟩
    · simp at h0
    have hcur : cur = row2 x y (cur.toList.drop 4) := by
      apply Array.toList_inj.1
      have h7 := List.take_append_drop 4 cur.toList
      have h8 : cur.toList.take 4 = sgCs x ++ sgCs y := by simpa using q6
      rw [h8] at h7
      simpa [row2] using h7.symm
    have hg : w.heap[g]? = some (.cells (row2 x y (cur.toList.drop 4)) 41 (0, 0)) := by rw [← hcur]; exact q2
    refine (slice2_any x y g bx cap _ w hg hbx).mono ?_
    rintro e w' ⟨rfl, x', y', hc, h3, h4⟩
    have hne : bx ≠ g := by
      rintro rfl
      rw [hbx] at q2
      cases q2
    have hsz : ∀ a b : Sig, (row2 a b (cur.toList.drop 4)).size = cap * 2 := by
      intro a b
      have : (row2 a b (cur.toList.drop 4)).size = (row2 x y (cur.toList.drop 4)).size := by simp [row2, sgCs]
      rw [this, ← hcur]; exact q5
    have hxy : x ≠ y := by
      rintro rfl
      simp at hnd
    have hz := cmpG_zero x y
    have hn := cmpG_neg x y
    refine ⟨rfl, [x', y'], ?_, ?_, ⟨by simp [sgCs], Or.inr ⟨g, cap, _, rfl, q1, h3, q3, q4, hsz _ _, by simp [row2, sgCs]⟩⟩, ⟨h4.os, h4.tape, h4.output, h4.size, fun k hk => h4.block k (by omega) (by simp; omega)⟩, (h4.block bx hbl (by simpa using hne)).trans hbx⟩
    · rcases hc with ⟨rfl, rfl, _⟩ | ⟨rfl, rfl, _⟩
      · exact List.Perm.refl _
      · exact List.Perm.swap _ _ _
    · rcases hc with ⟨rfl, rfl, hlt⟩ | ⟨rfl, rfl, hlt⟩
      · have : cmpG x' y' ≠ 0 := fun e => hxy (hz.1 e)
        simp only [List.pairwise_cons, List.mem_singleton, forall_eq, List.not_mem_nil, false_implies, implies_true, List.Pairwise.nil, and_true]
        omega
      · simp only [List.pairwise_cons, List.mem_singleton, forall_eq, List.not_mem_nil, false_implies, implies_true, List.Pairwise.nil, and_true]
        exact hlt
theorem keysM_any (m : Option Nat) (w : World) : Calls Tryz.prog 65 #[.map m] w fun e w' => e = .returned (.func (.func 96) #[] #[.pointer (some ⟨w.heap.size, 0, none⟩)]) ∧ w' = w.alloc (.cells #[.map m] 54) := by
  go_enter Tryz.func65, Tryz.ntmps65
  go_wp2
  go_returns
  exact ⟨rfl, rfl⟩
/-- What collecting the keys gives. -/
def Coll (G : List Sig) (w1 w2 : World) (v : Value) (xs : List Sig) : Prop := (∀ x, x ∈ xs ↔ x ∈ G) ∧ xs.Nodup ∧ w2.ownsRow w1.heap.size 41 2 v xs.length (xs.flatMap sgCs) ∧ Below w1.heap.size w1 w2
/-- What Sigs gives. -/
def SigsR (G : List Sig) (w w' : World) (v : Value) : Prop := ∃ ys : List Sig, (∀ x, x ∈ ys ↔ x ∈ G) ∧ ys.Nodup ∧ ys.Pairwise (fun a b => cmpG a b < 0) ∧ w'.ownsRow w.heap.size 41 2 v ys.length (ys.flatMap sgCs) ∧ Below w.heap.size w w'
set_option maxRecDepth 100000 in
set_option maxHeartbeats 4000000 in
theorem sigs_gen (sv : Value) (la : Option Addr) (ln lc : Nat) (m1 m2 m3 : Option Nat) (G : List Sig) (w : World)
    (hct : Calls Tryz.prog 54 #[sv] w fun e w'' => e = .returned (.agg #[.slice la ln lc, .map m1, .map m2, .map m3]) ∧ Below w.heap.size w w'')
    (hck : ∀ w1 Bk, Below w.heap.size w w1 → w1.heap[Bk]? = some (.cells #[.map m2] 54 (0, 0)) → Calls Tryz.prog 64 #[.func (.func 96) #[] #[.pointer (some ⟨Bk, 0, none⟩)]] w1 fun e w2 => ∃ v xs, e = .returned v ∧ Coll G w1 w2 v xs)
    (hG : ∀ xs : List Sig, xs.Nodup → (∀ x ∈ xs, x ∈ G) → xs.length ≤ 2) :
    Calls Tryz.prog 29 #[sv] w fun e w' => ∃ v, e = .returned v ∧ SigsR G w w' v := by
  have HC := Lib.hid hct
  have HK := Lib.hid hck
  have HG := Lib.hid hG
  clear hct hck hG
  have hfld : ∀ u : World, (Instr.field 57 (.agg #[.slice la ln lc, .map m1, .map m2, .map m3]) 2).run Tryz.prog u = .ok (.map m2) u := fun u => by kernel_rfl
  go_enter Tryz.func29, Tryz.ntmps29
  go_wp2_with (first
    | (go_at_call 54; refine HC.out.mono ?_; rintro e w1 ⟨rfl, hb1⟩; have HB1 := Lib.hid hb1; clear hb1)
    | (go_at_call 65; refine (keysM_any _ _).mono ?_; rintro e w2 ⟨rfl, hw2⟩))
  have hb2 : Below w.heap.size w w2 := by rw [hw2]; exact HB1.out.alloc HB1.out.size _
  have hcc := HK.out w2 w1.heap.size hb2 (by rw [hw2]; exact World.alloc_heap_new _ _)
  rw [← hw2]
  have HB2 := Lib.hid hb2
  clear hw2 hb2
  refine hcc.mono ?_
  clear hcc
  rintro e w3 ⟨v, xs, rfl, hx1, hx2, hx3, hx4⟩
  obtain ⟨a, c, rfl⟩ := ownsRow_slice hx3
  have HX := Lib.hid (show (∀ x, x ∈ xs ↔ x ∈ G) ∧ xs.Nodup from ⟨hx1, hx2⟩)
  have HR := Lib.hid hx3
  have HB3 := Lib.hid hx4
  clear hx1 hx2 hx3 hx4
  have hs := slice_any xs HX.out.2 (HG.out xs HX.out.2 fun x hx => (HX.out.1 x).1 hx) w2.heap.size w3.heap.size (.slice a xs.length c) (w3.alloc (.cells #[.slice a xs.length c] 61))
    (ownsRow_same HR.out fun g cs f _ h => (Below.heap_alloc _ _ _ (Array.getElem?_eq_some_iff.1 h).1).trans h) (World.alloc_heap_new _ _) (by have := HB3.out.size; simp; omega)
  have HS := Lib.hid hs
  clear hs
  go_wp2_with (go_at_call 66; refine HS.out.mono ?_; rintro e w4 ⟨rfl, ys, hp, hlt, hrow, hb4, hbox⟩; have x0 := cells_at hbox 0 _ rfl; have HP := Lib.hid hp; have HLT := Lib.hid hlt; have HROW := Lib.hid hrow; have HB4 := Lib.hid hb4; clear hp hlt hrow hb4 hbox)
  go_ret
  refine ⟨_, rfl, ys, fun x => (HP.out.mem_iff).trans (HX.out.1 x), HP.out.nodup_iff.2 HX.out.2, HLT.out, ?_, ?_⟩
  · obtain ⟨q1, q2⟩ := HROW.out
    have hz := HB2.out.size
    exact ⟨by first | exact q1 | (have := HP.out.length_eq; rw [this] at q1; simpa using q1), q2.imp (fun h => h) fun ⟨g, cap, cur, r1, r2, r3⟩ => ⟨g, cap, cur, r1, by omega, r3⟩⟩
  · have hz := HB2.out.size
    exact (HB2.out.trans (HB3.out.mono hz)).trans (((Below.refl _ w3).alloc (Nat.le_refl _) _ |>.mono (Nat.le_trans hz HB3.out.size)).trans (HB4.out.mono hz))
end Go.Proofs.YtcoieohbmkjpoaaGreatDoor
namespace Go.Proofs.YtcoieohbmkjpoaaGreatDoor
open Go.RowKit

mutual
/-- What SizeTerm counts up to a bound; and SizeTerms, with n counted before. -/
def sizeT (t : Tm) (m : Int) : Int := match t with
  | .mk _ _ _ args => 1 + sizeL args 0 (m - 1)
def sizeL (ts : List Tm) (n m : Int) : Int := match ts with
  | [] => n
  | t :: ts => if n ≤ m then sizeL ts (n + sizeT t (m - n)) m else n
end
theorem sizeL_stop {ts : List Tm} {n m : Int} (h : m < n) : sizeL ts n m = n := by
  cases ts with
  | nil => simp only [sizeL]
  | cons t ts => simp only [sizeL]; rw [if_neg (by omega)]
mutual
theorem sizeT_bounds : ∀ (t : Tm) (m : Int), 1 ≤ sizeT t m ∧ (sizeT t m ≤ 1 ∨ sizeT t m ≤ m + 1)
  | .mk _ _ _ args, m => by
    simp only [sizeT]
    have := sizeL_bounds args 0 (m - 1)
    omega
theorem sizeL_bounds : ∀ (ts : List Tm) (n m : Int), n ≤ sizeL ts n m ∧ (sizeL ts n m ≤ n ∨ sizeL ts n m ≤ m + 1)
  | [], n, m => by simp only [sizeL]; omega
  | t :: ts, n, m => by
    simp only [sizeL]
    split
    · have h1 := sizeT_bounds t (m - n)
      have h2 := sizeL_bounds ts (n + sizeT t (m - n)) m
      omega
    · omega
end
mutual
/-- A count that keeps the bound is whole. -/
theorem sizeT_whole : ∀ (t : Tm) (m : Int), sizeT t m ≤ m → sizeT t m = t.count
  | .mk _ _ _ args, m => by
    simp only [sizeT, Tm.count]
    intro h
    have := sizeL_whole args 0 (m - 1) (by omega)
    omega
theorem sizeL_whole : ∀ (ts : List Tm) (n m : Int), sizeL ts n m ≤ m → sizeL ts n m = n + Tm.countL ts
  | [], n, m => by simp only [sizeL, Tm.countL]; omega
  | t :: ts, n, m => by
    simp only [sizeL, Tm.countL]
    split
    · intro h
      have h0 := (sizeL_bounds ts (n + sizeT t (m - n)) m).1
      have h1 := sizeT_whole t (m - n) (by omega)
      have h2 := sizeL_whole ts _ m h
      omega
    · intro h; omega
end

/-- SizeTerm at one term. -/
def SzAt (B : Nat) (t : Tm) : Prop := ∀ (c0 c1 c2 c3 : Value) (m : Int) (W : World), IsTm B W c0 c1 c2 c3 t → B ≤ W.heap.size → -1000000000 ≤ m → m ≤ 1000000000 →
  Calls Tryz.prog 28 #[.agg #[c0, c1, c2, c3], .int .i64 m] W fun e W' => e = .returned (.int .i64 (sizeT t m)) ∧ Below W.heap.size W W'

set_option maxRecDepth 100000 in
set_option maxHeartbeats 2000000 in
theorem sizeTerms_at (B : Nat) (us : List Tm) (ih : ∀ t ∈ us, SzAt B t) (a : Option Addr) (cap : Nat) (m : Int) (W : World) (hB : B ≤ W.heap.size) (hl : us.length ≤ maxLen) (hm0 : -1000000001 ≤ m) (hm1 : m ≤ 1000000000)
    (hargs : us ≠ [] → ∃ b off, a = some ⟨b, off, none⟩ ∧ b < B ∧ IsTms B W b off us) :
    Calls Tryz.prog 63 #[.slice a us.length cap, .int .i64 m] W fun e W' => e = .returned (.int .i64 (sizeL us 0 m)) ∧ Below W.heap.size W W' := by
  unfold maxLen at hl
  have HA := Lib.hid hargs; clear hargs
  have IH := Lib.hid ih; clear ih
  have hbd := (sizeL_bounds us 0 m)
  obtain ⟨R, hR⟩ : ∃ R, sizeL us 0 m = R := ⟨_, rfl⟩
  rw [hR] at hbd ⊢
  go_enter Tryz.func63, Tryz.ntmps63
  go_wp2_with fail
  go_loopw [5, 6] (fun n i wr => ∃ (j : Nat) (k : Int), j ≤ us.length ∧ i = .int .i64 j ∧ n = .int .i64 k ∧ 0 ≤ k ∧ sizeL (us.drop j) k m = R ∧ Below W.heap.size W wr) (fun _ i _ => us.length - (intOf i).toNat)
  case atStart => exact ⟨0, 0, by omega, by go_num, by go_num, by omega, by simpa using hR, Below.refl _ _⟩
  case round =>
    obtain ⟨j, k, hj, rfl, rfl, hk0, hk, hBr⟩ := hrel
    have hkR : k ≤ R := by rw [← hk]; exact (sizeL_bounds _ _ _).1
    clear hR
    by_cases hlt : j < us.length
    · rw [List.drop_eq_getElem_cons hlt] at hk
      simp only [sizeL] at hk
      by_cases hkm : k ≤ m
      · rw [if_pos hkm] at hk
        obtain ⟨b, off, rfl, hb, hI⟩ := HA.out (by intro e; rw [e] at hlt; simp at hlt)
        obtain ⟨c0, c1, c2, c3, e0, e1, e2, e3, hc⟩ := hI.at j hlt
        have g0 := (hBr.cell (p := ⟨b, off + j * 4, none⟩) (by show b < _; omega)).trans e0
        have g1 := (hBr.cell (p := ⟨b, off + j * 4 + 1, none⟩) (by show b < _; omega)).trans e1
        have g2 := (hBr.cell (p := ⟨b, off + j * 4 + 2, none⟩) (by show b < _; omega)).trans e2
        have g3 := (hBr.cell (p := ⟨b, off + j * 4 + 3, none⟩) (by show b < _; omega)).trans e3
        have hsz := hBr.size
        have HS := Lib.hid (IH.out us[j] (List.getElem_mem hlt) c0 c1 c2 c3 (m - k) wr (hc.below (hBr.mono hB)) (by omega) (by omega) (by omega))
        have hp := sizeT_bounds us[j] (m - k)
        obtain ⟨s, hs⟩ : ∃ s, sizeT us[j] (m - k) = s := ⟨_, rfl⟩
        rw [hs] at hp hk HS
        have HK := Lib.hid hk
        have HB := Lib.hid hBr
        clear e0 e1 e2 e3 hc hs hk hBr
        have i1 : (0 : Int) ≤ (j : Int) := by omega
        have i2 : (j : Int) < (us.length : Int) := by omega
        go_wp2_with (go_at_call 28; refine HS.out.mono ?_; clear HS; rintro e W2 ⟨rfl, hB2⟩)
        go_roundw
        case rel => exact ⟨j + 1, k + s, by omega, by go_num, by go_num, by omega, HK.out, HB.out.trans (hB2.mono HB.out.size)⟩
        case measure => simp [intOf]; omega
      · rw [if_neg hkm] at hk
        subst hk
        have HB := Lib.hid hBr
        clear hBr
        go_wp2
        go_ret
        exact ⟨rfl, HB.out⟩
    · rw [List.drop_eq_nil_of_le (by omega)] at hk
      simp only [sizeL] at hk
      subst hk
      have HB := Lib.hid hBr
      clear hBr
      go_wp2
      go_ret
      exact ⟨rfl, HB.out⟩

set_option maxRecDepth 100000 in
set_option maxHeartbeats 2000000 in
theorem sizeTerm_at (B : Nat) (t : Tm) : SzAt B t := by
  induction t using Tm.ind with
  | h k n s us ih =>
    intro c0 c1 c2 c3 m W h hB hm0 hm1
    simp only [IsTm] at h
    obtain ⟨rfl, hk, rfl, hn, rfl, hs, a, cap, rfl, hl, hargs⟩ := h
    have hB1 : Below W.heap.size W (W.alloc (.cells #[.int .u8 k, .int .i64 n, .string s, .slice a us.length cap] 46)) := (Below.refl _ W).alloc (Nat.le_refl _) _
    have hS := sizeTerms_at B us ih a cap (m - 1) _ (Nat.le_trans hB hB1.size) hl (by omega) (by omega) (fun hne => by obtain ⟨b, off, h1, h2, h3⟩ := hargs hne; exact ⟨b, off, h1, h2, h3.below (hB1.mono hB) h2⟩)
    have hbd := sizeL_bounds us 0 (m - 1)
    have hT : sizeT (.mk k n s us) m = 1 + sizeL us 0 (m - 1) := by simp only [sizeT]
    rw [hT]
    obtain ⟨R, hR⟩ : ∃ R, sizeL us 0 (m - 1) = R := ⟨_, rfl⟩
    rw [hR] at hS hbd ⊢
    have HS := Lib.hid hS
    have HB := Lib.hid hB1
    clear hS hR hT hB1 hargs ih hl hs hn hk
    go_enter Tryz.func28, Tryz.ntmps28
    go_wp2_with (go_at_call 63; refine HS.out.mono ?_; clear HS; rintro e W2 ⟨rfl, hB2⟩)
    have hBf := HB.out.trans (hB2.mono HB.out.size)
    go_ret
    exact ⟨by go_num, hBf⟩

theorem sizeTerm_any (t : Tm) (c0 c1 c2 c3 : Value) (m : Int) (W : World) (ht : IsTm W.heap.size W c0 c1 c2 c3 t) (hm0 : -1000000000 ≤ m) (hm1 : m ≤ 1000000000) :
    Calls Tryz.prog 28 #[.agg #[c0, c1, c2, c3], .int .i64 m] W fun e W' => e = .returned (.int .i64 (sizeT t m)) ∧ Below W.heap.size W W' :=
  sizeTerm_at W.heap.size t c0 c1 c2 c3 m W ht (Nat.le_refl _) hm0 hm1
theorem sizeTerms_any (us : List Tm) (a : Option Addr) (cap : Nat) (m : Int) (W : World) (hl : us.length ≤ maxLen) (hm0 : -1000000001 ≤ m) (hm1 : m ≤ 1000000000)
    (hargs : us ≠ [] → ∃ b off, a = some ⟨b, off, none⟩ ∧ b < W.heap.size ∧ IsTms W.heap.size W b off us) :
    Calls Tryz.prog 63 #[.slice a us.length cap, .int .i64 m] W fun e W' => e = .returned (.int .i64 (sizeL us 0 m)) ∧ Below W.heap.size W W' :=
  sizeTerms_at W.heap.size us (fun t _ => sizeTerm_at _ t) a cap m W (Nat.le_refl _) hl hm0 hm1 hargs
end Go.Proofs.YtcoieohbmkjpoaaGreatDoor
namespace Go.Proofs.YtcoieohbmkjpoaaGreatDoor
open Go.RowKit

mutual
/-- Equal in every field, on all levels. -/
def sameB (t t' : Tm) : Bool := match t, t' with
  | .mk k n s us, .mk k' n' s' us' => (k == k') && ((n == n') && ((s.toList == s'.toList) && sameL us us'))
def sameL (us us' : List Tm) : Bool := match us, us' with
  | [], [] => true
  | t :: ts, t' :: ts' => sameB t t' && sameL ts ts'
  | _, _ => false
end
theorem bytes_inj {s t : ByteArray} (h : s.toList = t.toList) : s = t := by
  rw [ByteArray.toList_eq, ByteArray.toList_eq] at h
  cases s; cases t
  simp only at h
  congr 1
  exact Array.toList_inj.1 h
mutual
theorem sameB_iff : ∀ t t' : Tm, sameB t t' = true ↔ t = t'
  | .mk k n s us, .mk k' n' s' us' => by
    simp only [sameB, Bool.and_eq_true, beq_iff_eq, sameL_iff us us']
    constructor
    · rintro ⟨rfl, rfl, h, rfl⟩; rw [bytes_inj h]
    · intro e; injection e with e1 e2 e3 e4; subst e1 e2 e3 e4; exact ⟨rfl, rfl, rfl, rfl⟩
theorem sameL_iff : ∀ us us' : List Tm, sameL us us' = true ↔ us = us'
  | [], [] => by simp [sameL]
  | [], _ :: _ => by simp [sameL]
  | _ :: _, [] => by simp [sameL]
  | t :: ts, t' :: ts' => by simp only [sameL, Bool.and_eq_true, sameB_iff t t', sameL_iff ts ts', List.cons.injEq]
end
theorem sameL_len {us us' : List Tm} (h : us.length ≠ us'.length) : sameL us us' = false := by
  cases e : sameL us us' with
  | false => rfl
  | true => exact absurd (congrArg List.length ((sameL_iff us us').1 e)) h

/-- SameTerm at one term. -/
def SmAt (B : Nat) (t : Tm) : Prop := ∀ (t' : Tm) (c0 c1 c2 c3 d0 d1 d2 d3 : Value) (W : World), IsTm B W c0 c1 c2 c3 t → IsTm B W d0 d1 d2 d3 t' → B ≤ W.heap.size →
  Calls Tryz.prog 58 #[.agg #[c0, c1, c2, c3], .agg #[d0, d1, d2, d3]] W fun e W' => e = .returned (.bool (sameB t t')) ∧ Below W.heap.size W W'

set_option maxRecDepth 100000 in
set_option maxHeartbeats 2000000 in
theorem sameTerms_at (B : Nat) (us us' : List Tm) (ih : ∀ t ∈ us, SmAt B t) (a a' : Option Addr) (cap cap' : Nat) (W : World) (hB : B ≤ W.heap.size) (hl : us.length ≤ maxLen) (_hl' : us'.length ≤ maxLen)
    (hargs : us ≠ [] → ∃ b off, a = some ⟨b, off, none⟩ ∧ b < B ∧ IsTms B W b off us) (hargs' : us' ≠ [] → ∃ b off, a' = some ⟨b, off, none⟩ ∧ b < B ∧ IsTms B W b off us') :
    Calls Tryz.prog 56 #[.slice a us.length cap, .slice a' us'.length cap'] W fun e W' => e = .returned (.bool (sameL us us')) ∧ Below W.heap.size W W' := by
  unfold maxLen at hl
  have HA := Lib.hid hargs; clear hargs
  have HA' := Lib.hid hargs'; clear hargs'
  have IH := Lib.hid ih; clear ih
  by_cases hlen : us.length = us'.length
  case neg =>
    rw [sameL_len hlen]
    have e1 : ((us.length : Int) != (us'.length : Int)) = true := by simp; omega
    go_enter Tryz.func56, Tryz.ntmps56
    go_wp2
    go_ret
    exact ⟨rfl, Below.refl _ _⟩
  rw [← hlen]
  have HL := Lib.hid hlen
  clear hlen
  obtain ⟨R, hR⟩ : ∃ R, sameL us us' = R := ⟨_, rfl⟩
  rw [hR]
  go_enter Tryz.func56, Tryz.ntmps56
  go_wp2_with fail
  go_loopw [5] (fun i wr => ∃ (j : Nat), j ≤ us.length ∧ i = .int .i64 j ∧ sameL (us.drop j) (us'.drop j) = R ∧ Below W.heap.size W wr) (fun i _ => us.length - (intOf i).toNat)
  case atStart => exact ⟨0, by omega, by go_num, by simpa using hR, Below.refl _ _⟩
  case round =>
    obtain ⟨j, hj, rfl, hk, hBr⟩ := hrel
    clear hR
    by_cases hlt : j < us.length
    · have hlen := HL.out
      have hlt' : j < us'.length := by omega
      rw [List.drop_eq_getElem_cons (l := us) hlt, List.drop_eq_getElem_cons (l := us') hlt'] at hk
      simp only [sameL] at hk
      obtain ⟨b, off, rfl, hb, hI⟩ := HA.out (by intro e; rw [e] at hlt; simp at hlt)
      obtain ⟨b', off', rfl, hb', hI'⟩ := HA'.out (by intro e; rw [e] at hlen; simp at hlen; rw [hlen] at hlt; simp at hlt)
      obtain ⟨c0, c1, c2, c3, e0, e1, e2, e3, hc⟩ := hI.at j hlt
      obtain ⟨d0, d1, d2, d3, k0, k1, k2, k3, hd⟩ := hI'.at j hlt'
      have hsz := hBr.size
      have g0 := (hBr.cell (p := ⟨b, off + j * 4, none⟩) (by show b < _; omega)).trans e0
      have g1 := (hBr.cell (p := ⟨b, off + j * 4 + 1, none⟩) (by show b < _; omega)).trans e1
      have g2 := (hBr.cell (p := ⟨b, off + j * 4 + 2, none⟩) (by show b < _; omega)).trans e2
      have g3 := (hBr.cell (p := ⟨b, off + j * 4 + 3, none⟩) (by show b < _; omega)).trans e3
      have l0 := (hBr.cell (p := ⟨b', off' + j * 4, none⟩) (by show b' < _; omega)).trans k0
      have l1 := (hBr.cell (p := ⟨b', off' + j * 4 + 1, none⟩) (by show b' < _; omega)).trans k1
      have l2 := (hBr.cell (p := ⟨b', off' + j * 4 + 2, none⟩) (by show b' < _; omega)).trans k2
      have l3 := (hBr.cell (p := ⟨b', off' + j * 4 + 3, none⟩) (by show b' < _; omega)).trans k3
      have HS := Lib.hid (IH.out us[j] (List.getElem_mem hlt) us'[j] c0 c1 c2 c3 d0 d1 d2 d3 wr.drew (hc.below (hBr.mono hB).drew) (hd.below (hBr.mono hB).drew) (by show B ≤ wr.heap.size; omega))
      have hBd : Below W.heap.size W wr.drew := hBr.drew
      have hsd : W.heap.size ≤ wr.drew.heap.size := hsz
      have HBD := Lib.hid hBd
      have HSD := Lib.hid hsd
      cases hs : sameB us[j] us'[j]
      all_goals
        rw [hs] at hk HS
        first | rw [Bool.true_and] at hk | rw [Bool.false_and] at hk
        have HK := Lib.hid hk
        clear e0 e1 e2 e3 k0 k1 k2 k3 hc hd hs hBd hk hsd hlen
        have i1 : (0 : Int) ≤ (j : Int) := by omega
        have i2 : (j : Int) < (us.length : Int) := by omega
        go_wp2_with fail
        go_still_tail 8, (by kernel_rfl)
        change wpList _ _ _ _ _ wr.drew
        go_wp2_with (go_at_call 58; refine HS.out.mono ?_)
        clear HS
        rintro e W2 ⟨rfl, hB2⟩
        have hB2' : Below W.heap.size W W2 := HBD.out.trans (hB2.mono HSD.out)
        clear hB2
        go_wp2_with fail
      · go_ret
        exact ⟨by rw [← HK.out]; rfl, hB2'⟩
      · go_roundw
        case rel => exact ⟨j + 1, by omega, by go_num, HK.out, hB2'⟩
        case measure => simp [intOf]; omega
    · rw [List.drop_eq_nil_of_le (by omega), List.drop_eq_nil_of_le (by have := HL.out; omega)] at hk
      simp only [sameL] at hk
      subst hk
      have HB := Lib.hid hBr
      clear hBr
      go_wp2
      go_ret
      exact ⟨rfl, HB.out⟩

set_option maxRecDepth 100000 in
set_option maxHeartbeats 2000000 in
theorem sameTerm_at (B : Nat) (t : Tm) : SmAt B t := by
  induction t using Tm.ind with
  | h k n s us ih =>
    rintro ⟨k', n', s', us'⟩ c0 c1 c2 c3 d0 d1 d2 d3 W h1 h2 hB
    simp only [IsTm] at h1 h2
    obtain ⟨rfl, hk, rfl, hn, rfl, hs, a, cap, rfl, hl, hargs⟩ := h1
    obtain ⟨rfl, hk', rfl, hn', rfl, hs', a', cap', rfl, hl', hargs'⟩ := h2
    have hB1 : Below W.heap.size W ((W.alloc (.cells #[.int .u8 k, .int .i64 n, .string s, .slice a us.length cap] 46)).alloc (.cells #[.int .u8 k', .int .i64 n', .string s', .slice a' us'.length cap'] 46)) :=
      ((Below.refl _ W).alloc (Nat.le_refl _) _).alloc (by simp) _
    have hS := sameTerms_at B us us' ih a a' cap cap' _ (Nat.le_trans hB hB1.size) hl hl' (fun hne => by obtain ⟨b, off, h1, h2, h3⟩ := hargs hne; exact ⟨b, off, h1, h2, h3.below (hB1.mono hB) h2⟩)
      (fun hne => by obtain ⟨b, off, h1, h2, h3⟩ := hargs' hne; exact ⟨b, off, h1, h2, h3.below (hB1.mono hB) h2⟩)
    have hR : sameB (.mk k n s us) (.mk k' n' s' us') = ((k == k') && ((n == n') && ((s.toList == s'.toList) && sameL us us'))) := by simp only [sameB]
    have HS := Lib.hid hS
    have HB := Lib.hid hB1
    clear hS hB1 hargs hargs' ih hl hs hn hk hl' hs' hn' hk'
    cases e1 : k == k' <;> rw [e1] at hR
    · rw [Bool.false_and] at hR
      have HR := Lib.hid hR
      clear hR
      go_enter Tryz.func58, Tryz.ntmps58
      go_wp2
      go_ret
      exact ⟨by rw [HR.out]; rfl, HB.out⟩
    cases e2 : n == n' <;> rw [e2] at hR
    · rw [Bool.false_and, Bool.and_false] at hR
      have HR := Lib.hid hR
      clear hR
      go_enter Tryz.func58, Tryz.ntmps58
      go_wp2
      go_ret
      exact ⟨by rw [HR.out]; rfl, HB.out⟩
    cases e3 : s.toList == s'.toList <;> rw [e3] at hR
    · rw [Bool.false_and, Bool.and_false, Bool.and_false] at hR
      have HR := Lib.hid hR
      clear hR
      go_enter Tryz.func58, Tryz.ntmps58
      go_wp2
      go_ret
      exact ⟨by rw [HR.out]; rfl, HB.out⟩
    · rw [Bool.true_and, Bool.true_and, Bool.true_and] at hR
      have HR := Lib.hid hR
      clear hR
      go_enter Tryz.func58, Tryz.ntmps58
      go_wp2_with (go_at_call 56; refine HS.out.mono ?_; clear HS; rintro e W2 ⟨rfl, hB2⟩)
      have hBf := HB.out.trans (hB2.mono HB.out.size)
      go_ret
      exact ⟨by rw [HR.out]; rfl, hBf⟩

theorem sameTerm_any (t t' : Tm) (c0 c1 c2 c3 d0 d1 d2 d3 : Value) (W : World) (h : IsTm W.heap.size W c0 c1 c2 c3 t) (h' : IsTm W.heap.size W d0 d1 d2 d3 t') :
    Calls Tryz.prog 58 #[.agg #[c0, c1, c2, c3], .agg #[d0, d1, d2, d3]] W fun e W' => e = .returned (.bool (sameB t t')) ∧ Below W.heap.size W W' :=
  sameTerm_at W.heap.size t t' c0 c1 c2 c3 d0 d1 d2 d3 W h h' (Nat.le_refl _)


theorem small_count {us : List Tm} (h : sizeL us 0 300 ≤ 300) : Tm.countL us ≤ 300 := by
  have := sizeL_whole us 0 300 h
  omega
end Go.Proofs.YtcoieohbmkjpoaaGreatDoor
namespace Go.Proofs.YtcoieohbmkjpoaaGreatDoor
open Go.RowKit Go.Shelf Go.Maps
attribute [local go_sem] Oper.semAt_some

theorem FlatA.sigOk {S : Nat → Prop} {w : World} : ∀ {L : List Ato} {xs : List Value}, FlatA S w xs L → ∀ x ∈ L, SigOk (sgOf x)
  | [], _, _, x, hx => by cases hx
  | y :: L, _, ⟨_, _, _, _, h, hf⟩, x, hx => by
    rcases List.mem_cons.1 hx with rfl | hx
    · obtain ⟨_, q1, _, _, _, q2, _⟩ := h
      exact ⟨q1, q2⟩
    · exact FlatA.sigOk hf x hx
theorem sigs_row (B S : Nat) (lab : Lab) (L : List Ato) (w : World) (hI : StI w B lab S L) (h2 : ∀ xs : List Sig, xs.Nodup → (∀ x ∈ xs, x ∈ L.map sgOf) → xs.length ≤ 2) :
    Calls Tryz.prog 29 #[.pointer (some ⟨S, 0, none⟩)] w fun e w' => ∃ v, e = .returned v ∧ SigsR (L.map sgOf) w w' v := by
  have hln := hI.len
  obtain ⟨la, lc, m1, m2, m3, h0, _, ⟨D, val, ho, hd, _⟩, _, ⟨xs, _, hf, _⟩⟩ := hI.row
  refine sigs_gen _ la L.length lc (some m1) (some m2) (some m3) (L.map sgOf) w (content_row S la L.length lc (some m1) (some m2) (some m3) w h0) (fun w1 Bk hb hB1 => ?_) h2
  refine (collectS_any (L.map sgOf) m2 L.length Bk D w1 hB1 (ownsMap_same ho (hb.block m2 ho.lt)) hd (fun s hs => ?_) (by simp; omega)).mono ?_
  · obtain ⟨x, hx, rfl⟩ := List.mem_map.1 hs
    exact hf.sigOk x hx
  · rintro e w2 ⟨v, ys, rfl, q1, q2, _, q3, q4⟩
    exact ⟨v, ys, rfl, q1, q2, q3, q4⟩
def sameA (x y : Ato) : Bool := (x.1.toList == y.1.toList) && sameL x.2 y.2
theorem sameA_iff (x y : Ato) : sameA x y = true ↔ x = y := by
  unfold sameA
  rw [Bool.and_eq_true, sameL_iff, beq_iff_eq]
  exact ⟨fun h => Prod.ext (bytes_inj h.1) h.2, fun h => by subst h; exact ⟨rfl, rfl⟩⟩
set_option maxRecDepth 100000 in
set_option maxHeartbeats 2000000 in
theorem sameAtom_any (x y : Ato) (v0 v1 u0 u1 : Value) (w : World) (h : AtS (fun b => b < w.heap.size) w v0 v1 x) (h' : AtS (fun b => b < w.heap.size) w u0 u1 y) :
    Calls Tryz.prog 20 #[.agg #[v0, v1], .agg #[u0, u1]] w fun e w' => e = .returned (.bool (sameA x y)) ∧ Below w.heap.size w w' := by
  obtain ⟨p, us⟩ := x
  obtain ⟨q, vs⟩ := y
  obtain ⟨a, cap, rfl, rfl⟩ := h.shape
  obtain ⟨a', cap', rfl, rfl⟩ := h'.shape
  show Calls Tryz.prog 20 #[.agg #[.string p, .slice a us.length cap], .agg #[.string q, .slice a' vs.length cap']] w _
  have hB1 : Below w.heap.size w ((w.alloc (.cells #[.string p, .slice a us.length cap] 24)).alloc (.cells #[.string q, .slice a' vs.length cap'] 24)) := ((Below.refl _ w).alloc (Nat.le_refl _) _).alloc (by simp) _
  have hl : us.length ≤ maxLen := by obtain ⟨_, _, _, _, _, q, _⟩ := h; exact q
  have hl' : vs.length ≤ maxLen := by obtain ⟨_, _, _, _, _, q, _⟩ := h'; exact q
  have hS := sameTerms_at w.heap.size us vs (fun t _ => sameTerm_at _ t) a a' cap cap' _ hB1.size hl hl' (fun hne => by obtain ⟨b, off, h1, h2, h3⟩ := h.args (fun _ h => h) hne; exact ⟨b, off, h1, h2, h3.below hB1 h2⟩)
      (fun hne => by obtain ⟨b, off, h1, h2, h3⟩ := h'.args (fun _ h => h) hne; exact ⟨b, off, h1, h2, h3.below hB1 h2⟩)
  have hR : sameA (p, us) (q, vs) = ((p.toList == q.toList) && sameL us vs) := rfl
  have HS := Lib.hid hS
  have HB := Lib.hid hB1
  clear hS hB1 h h' hl hl'
  cases e1 : p.toList == q.toList <;> rw [e1] at hR
  · rw [Bool.false_and] at hR
    have HR := Lib.hid hR
    clear hR
    go_enter Tryz.func20, Tryz.ntmps20
    go_wp2
    go_ret
    exact ⟨by rw [HR.out]; rfl, HB.out⟩
  · rw [Bool.true_and] at hR
    have HR := Lib.hid hR
    clear hR
    go_enter Tryz.func20, Tryz.ntmps20
    go_wp2_with (go_at_call 56; refine HS.out.mono ?_; clear HS; rintro e W2 ⟨rfl, hB2⟩)
    have hBf := HB.out.trans (hB2.mono HB.out.size)
    go_ret
    exact ⟨by rw [HR.out]; rfl, hBf⟩
def sameAL : List Ato → List Ato → Bool
  | [], [] => true
  | x :: xs, y :: ys => sameA x y && sameAL xs ys
  | _, _ => false
theorem sameAL_iff : ∀ L L' : List Ato, sameAL L L' = true ↔ L = L'
  | [], [] => by simp [sameAL]
  | [], _ :: _ => by simp [sameAL]
  | _ :: _, [] => by simp [sameAL]
  | x :: xs, y :: ys => by simp [sameAL, sameA_iff, sameAL_iff xs ys]
theorem sameAL_len : ∀ {L L' : List Ato}, L.length ≠ L'.length → sameAL L L' = false
  | [], [], h => absurd rfl h
  | [], _ :: _, _ => rfl
  | _ :: _, [], _ => rfl
  | x :: xs, y :: ys, h => by simp [sameAL, sameAL_len (L := xs) (L' := ys) (by simpa using h)]
set_option maxRecDepth 100000 in
set_option maxHeartbeats 2000000 in
theorem sameAtoms_any (L L' : List Ato) (lv lv' : Value) (w : World) (h : LstR w lv L) (h' : LstR w lv' L') :
    Calls Tryz.prog 21 #[lv, lv'] w fun e w' => e = .returned (.bool (sameAL L L')) ∧ Below w.heap.size w w' := by
  obtain ⟨a, c, rfl⟩ : ∃ a c, lv = .slice a L.length c := by obtain ⟨xs, ho, _⟩ := h; exact own_slice ho
  obtain ⟨a', c', rfl⟩ : ∃ a c, lv' = .slice a L'.length c := by obtain ⟨xs, ho, _⟩ := h'; exact own_slice ho
  have hl : L.length ≤ 9223372036854775807 := by
    obtain ⟨xs, ho, _⟩ := h
    rcases ho.2 with ⟨_, e⟩ | ⟨g, cap, cur, e, _, _, h1, h2, _⟩
    · omega
    · unfold maxLen at h2; omega
  have HA := Lib.hid h; clear h
  have HA' := Lib.hid h'; clear h'
  by_cases hlen : L.length = L'.length
  case neg =>
    rw [sameAL_len hlen]
    have e1 : ((L.length : Int) != (L'.length : Int)) = true := by simp; omega
    go_enter Tryz.func21, Tryz.ntmps21
    go_wp2
    go_ret
    exact ⟨rfl, Below.refl _ _⟩
  have HL := Lib.hid hlen
  obtain ⟨R, hR⟩ : ∃ R, sameAL L L' = R := ⟨_, rfl⟩
  rw [hR, ← hlen]
  clear hlen
  go_enter Tryz.func21, Tryz.ntmps21
  go_wp2_with fail
  go_loopw [5] (fun i wr => ∃ (j : Nat), j ≤ L.length ∧ i = .int .i64 j ∧ sameAL (L.drop j) (L'.drop j) = R ∧ Below w.heap.size w wr) (fun i _ => L.length - (intOf i).toNat)
  case atStart => exact ⟨0, by omega, by go_num, by simpa using hR, Below.refl _ _⟩
  case round =>
    obtain ⟨j, hj, rfl, hk, hBr⟩ := hrel
    clear hR
    by_cases hlt : j < L.length
    · have hlen := HL.out
      have hlt' : j < L'.length := by omega
      rw [List.drop_eq_getElem_cons (l := L) hlt, List.drop_eq_getElem_cons (l := L') hlt'] at hk
      simp only [sameAL] at hk
      have hq1 := (HA.out.below hBr)
      have hq2 := (HA'.out.below hBr)
      obtain ⟨g, cc, b, k, e, g0, g1, hx⟩ := hq1.at j hlt
      simp only [Value.slice.injEq] at e
      obtain ⟨rfl, _, rfl⟩ := e
      obtain ⟨g', cc', b', k', e, l0, l1, hy⟩ := hq2.at j hlt'
      simp only [Value.slice.injEq] at e
      obtain ⟨rfl, _, rfl⟩ := e
      have HS := Lib.hid (sameAtom_any L[j] L'[j] _ _ _ _ wr.drew (hx.below (Below.refl _ wr).drew) (hy.below (Below.refl _ wr).drew))
      have hBd : Below w.heap.size w wr.drew := hBr.drew
      have HBD := Lib.hid hBd
      have HSD := Lib.hid (show w.heap.size ≤ wr.drew.heap.size from hBr.size)
      obtain ⟨x, hx1⟩ : ∃ x, L[j] = x := ⟨_, rfl⟩
      obtain ⟨y, hy1⟩ : ∃ y, L'[j] = y := ⟨_, rfl⟩
      rw [hx1] at hk HS g0 g1
      rw [hy1] at hk HS l0 l1
      obtain ⟨p, us⟩ := x
      obtain ⟨q, vs⟩ := y
      simp only at g0 g1 l0 l1 HS
      cases hs : sameA (p, us) (q, vs)
      all_goals
        rw [hs] at hk HS
        first | rw [Bool.true_and] at hk | rw [Bool.false_and] at hk
        have HK := Lib.hid hk
        clear hx hy hs hBd hk hlen hx1 hy1 hq1 hq2
        have i1 : (0 : Int) ≤ (j : Int) := by omega
        have i2 : (j : Int) < (L.length : Int) := by omega
        go_wp2_with fail
        go_still_tail 8, (by kernel_rfl)
        change wpList _ _ _ _ _ wr.drew
        go_wp2_with (go_at_call 20; refine HS.out.mono ?_)
        clear HS
        rintro e W2 ⟨rfl, hB2⟩
        have hB2' : Below w.heap.size w W2 := HBD.out.trans (hB2.mono HSD.out)
        clear hB2
        go_wp2_with fail
      · go_ret
        exact ⟨by rw [← HK.out]; rfl, hB2'⟩
      · go_roundw
        case rel => exact ⟨j + 1, by omega, by go_num, HK.out, hB2'⟩
        case measure => simp [intOf]; omega
    · rw [List.drop_eq_nil_of_le (by omega), List.drop_eq_nil_of_le (by have := HL.out; omega)] at hk
      simp only [sameAL] at hk
      subst hk
      have HB := Lib.hid hBr
      clear hBr
      go_wp2
      go_ret
      exact ⟨rfl, HB.out⟩
end Go.Proofs.YtcoieohbmkjpoaaGreatDoor
namespace Go.Proofs.YtcoieohbmkjpoaaGreatDoor
open Go.RowKit Go.Shelf Go.Maps
attribute [local go_sem] Oper.semAt_some

theorem sgFlat_at : ∀ (l : List Sig) (j : Nat) (h : j < l.length), (l.flatMap sgCs)[j * 2]? = some (.string l[j].1) ∧ (l.flatMap sgCs)[j * 2 + 1]? = some (.int .i64 l[j].2)
  | x :: l, 0, _ => ⟨rfl, rfl⟩
  | x :: l, j + 1, h => by
    have := sgFlat_at l j (by simpa using h)
    simpa [List.flatMap_cons, sgCs, Nat.add_mul] using this
def SgR (w : World) (v : Value) (l : List Sig) : Prop := w.ownsRow 0 41 2 v l.length (l.flatMap sgCs)
theorem SgR.at {w : World} {v : Value} {l : List Sig} (h : SgR w v l) (j : Nat) (hj : j < l.length) : ∃ g c, v = .slice (some ⟨g, 0, none⟩) l.length c ∧ w.cell? ⟨g, j * 2, none⟩ = some (.string l[j].1) ∧ w.cell? ⟨g, j * 2 + 1, none⟩ = some (.int .i64 l[j].2) := by
  obtain ⟨_, h⟩ := h
  rcases h with ⟨_, h0⟩ | ⟨g, cap, cur, rfl, _, q2, q3, q4, q5, q6⟩
  · omega
  · obtain ⟨f1, f2⟩ := sgFlat_at l j hj
    have tk : ∀ k, k < l.length * 2 → cur[k]? = (l.flatMap sgCs)[k]? := fun k hk => by rw [← q6, List.getElem?_take_of_lt hk, Array.getElem?_toList]
    exact ⟨g, cap, rfl, cells_at q2 _ _ ((tk _ (by omega)).trans f1), cells_at q2 _ _ ((tk _ (by omega)).trans f2)⟩
theorem SgR.below {w w' : World} {v : Value} {l : List Sig} (h : SgR w v l) (hb : Below w.heap.size w w') : SgR w' v l := ownsRow_same h (fun g _ _ _ h => (hb.block g (Array.getElem?_eq_some_iff.1 h).1).trans h)
def sameSL : List Sig → List Sig → Bool
  | [], [] => true
  | x :: xs, y :: ys => decide (x = y) && sameSL xs ys
  | _, _ => false
theorem sameSL_iff : ∀ L L' : List Sig, sameSL L L' = true ↔ L = L'
  | [], [] => by simp [sameSL]
  | [], _ :: _ => by simp [sameSL]
  | _ :: _, [] => by simp [sameSL]
  | x :: xs, y :: ys => by simp [sameSL, sameSL_iff xs ys]
theorem sameSL_len : ∀ {L L' : List Sig}, L.length ≠ L'.length → sameSL L L' = false
  | [], [], h => absurd rfl h
  | [], _ :: _, _ => rfl
  | _ :: _, [], _ => rfl
  | x :: xs, y :: ys, h => by simp [sameSL, sameSL_len (L := xs) (L' := ys) (by simpa using h)]
set_option maxRecDepth 100000 in
set_option maxHeartbeats 2000000 in
theorem sameSigs_any (L L' : List Sig) (lv lv' : Value) (w : World) (h : SgR w lv L) (h' : SgR w lv' L') :
    Calls Tryz.prog 37 #[lv, lv'] w fun e w' => e = .returned (.bool (sameSL L L')) ∧ Below w.heap.size w w' := by
  obtain ⟨a, c, rfl⟩ := ownsRow_slice h
  obtain ⟨a', c', rfl⟩ := ownsRow_slice h'
  have hl : L.length ≤ 9223372036854775807 := by
    rcases h.2 with ⟨_, e⟩ | ⟨g, cap, cur, e, _, _, h1, h2, _⟩
    · omega
    · unfold maxLen at h2; omega
  have HA := Lib.hid h; clear h
  have HA' := Lib.hid h'; clear h'
  by_cases hlen : L.length = L'.length
  case neg =>
    rw [sameSL_len hlen]
    have e1 : ((L.length : Int) != (L'.length : Int)) = true := by simp; omega
    go_enter Tryz.func37, Tryz.ntmps37
    go_wp2
    go_ret
    exact ⟨rfl, Below.refl _ _⟩
  have HL := Lib.hid hlen
  obtain ⟨R, hR⟩ : ∃ R, sameSL L L' = R := ⟨_, rfl⟩
  rw [hR, ← hlen]
  clear hlen
  go_enter Tryz.func37, Tryz.ntmps37
  go_wp2_with fail
  go_loopw [5] (fun i wr => ∃ (j : Nat), j ≤ L.length ∧ i = .int .i64 j ∧ sameSL (L.drop j) (L'.drop j) = R ∧ Below w.heap.size w wr) (fun i _ => L.length - (intOf i).toNat)
  case atStart => exact ⟨0, by omega, by go_num, by simpa using hR, Below.refl _ _⟩
  case round =>
    obtain ⟨j, hj, rfl, hk, hBr⟩ := hrel
    clear hR
    by_cases hlt : j < L.length
    · have hlen := HL.out
      have hlt' : j < L'.length := by omega
      rw [List.drop_eq_getElem_cons (l := L) hlt, List.drop_eq_getElem_cons (l := L') hlt'] at hk
      simp only [sameSL] at hk
      have hq1 := (SgR.below HA.out hBr)
      have hq2 := (SgR.below HA'.out hBr)
      obtain ⟨g, cc, e, g0, g1⟩ := hq1.at j hlt
      simp only [Value.slice.injEq] at e
      obtain ⟨rfl, _, rfl⟩ := e
      obtain ⟨g', cc', e, l0, l1⟩ := hq2.at j hlt'
      simp only [Value.slice.injEq] at e
      obtain ⟨rfl, _, rfl⟩ := e
      have HBD := Lib.hid hBr
      obtain ⟨x, hx1⟩ : ∃ x, L[j] = x := ⟨_, rfl⟩
      obtain ⟨y, hy1⟩ : ∃ y, L'[j] = y := ⟨_, rfl⟩
      rw [hx1] at hk g0 g1
      rw [hy1] at hk l0 l1
      obtain ⟨p, n⟩ := x
      obtain ⟨q, m⟩ := y
      simp only at g0 g1 l0 l1
      have HK := Lib.hid hk
      clear hk hlen hx1 hy1 hq1 hq2 hBr
      have i1 : (0 : Int) ≤ (j : Int) := by omega
      have i2 : (j : Int) < (L.length : Int) := by omega
      go_wp2_with fail
      go_still_tail 8, (by kernel_rfl)
      change wpList _ _ _ _ _ wr.drew
      go_wp2_with fail
      all_goals clear g0 g1 l0 l1
      all_goals first
        | (have hn : ¬ ((p, n) = (q, m)) := by
            intro e
            cases e
            contradiction
           go_ret
           refine ⟨?_, HBD.out.drew⟩
           rw [← HK.out, decide_eq_false hn]
           rfl)
        | (have e1 := bytes_inj ‹p.toList = q.toList›
           have e2 : n = m := by have := ‹(n : Int) = (m : Int)›; omega
           subst e1 e2
           have hk2 : sameSL (L.drop (j + 1)) (L'.drop (j + 1)) = R := by have := HK.out; simpa using this
           go_roundw
           case rel => exact ⟨j + 1, by omega, by go_num, hk2, HBD.out.drew⟩
           case measure => simp [intOf]; omega)
    · rw [List.drop_eq_nil_of_le (by omega), List.drop_eq_nil_of_le (by have := HL.out; omega)] at hk
      simp only [sameSL] at hk
      subst hk
      have HB := Lib.hid hBr
      clear hBr
      go_wp2
      go_ret
      exact ⟨rfl, HB.out⟩
end Go.Proofs.YtcoieohbmkjpoaaGreatDoor
namespace Go.Proofs.YtcoieohbmkjpoaaGreatDoor
open Go.RowKit Go.Shelf Go.Maps
attribute [local go_sem] Oper.semAt_some

set_option maxHeartbeats 1000000 in
theorem num11_any (n : Int) (w : World) : Calls Tryz.prog 33 #[.int .i64 n] w fun e w' => e = .returned (.agg #[.int .u8 1, .int .i64 n, .string ⟨#[]⟩, .slice none 0 0]) ∧ Below w.heap.size w w' := by
  obtain ⟨W, hW⟩ : ∃ W, w.alloc (.cells #[.int .u8 0, .int .i64 0, .string ⟨#[]⟩, .slice none 0 0] 46) = W := ⟨_, rfl⟩
  have hb : Below w.heap.size w W := by rw [← hW]; exact (Below.refl _ _).alloc (Nat.le_refl _) _
  have hR : W.heap[w.heap.size]? = some (.cells #[.int .u8 0, .int .i64 0, .string ⟨#[]⟩, .slice none 0 0] 46 (0, 0)) := by rw [← hW]; exact World.alloc_heap_new _ _
  have y0 := cells_at hR 0 _ rfl
  have y1 := cells_at hR 1 _ rfl
  have y2 := cells_at hR 2 _ rfl
  have y3 := cells_at hR 3 _ rfl
  have f0 := frozen_of_row W w.heap.size 0 _ _ hR
  have f1 := frozen_of_row W w.heap.size 1 _ _ hR
  have f2 := frozen_of_row W w.heap.size 2 _ _ hR
  have f3 := frozen_of_row W w.heap.size 3 _ _ hR
  have HB := Lib.hid hb
  have HR := Lib.hid hR
  clear hR hb
  go_enter Tryz.func33, Tryz.ntmps33
  go_wp2
  have rr := (heap_setCell_same _ w.heap.size 3 _ _ (.slice none 0 0) (heap_setCell_same _ w.heap.size 2 _ _ (.string ⟨#[]⟩) (heap_setCell_same _ w.heap.size 1 _ _ (.int .i64 n) (heap_setCell_same _ w.heap.size 0 _ _ (.int .u8 1) HR.out))))
  have z0 := cells_at rr 0 _ rfl
  have z1 := cells_at rr 1 _ rfl
  have z2 := cells_at rr 2 _ rfl
  have z3 := cells_at rr 3 _ rfl
  refine bodyPost_ret (v := .agg #[.int .u8 1, .int .i64 n, .string ⟨#[]⟩, .slice none 0 0]) (by simp [results, Tryz.f33, go_sem, z0, z1, z2, z3]) rfl ?_
  exact ⟨rfl, ((((HB.out.setCell (p := ⟨w.heap.size, 0, none⟩) (by simp) _).setCell (p := ⟨w.heap.size, 1, none⟩) (by simp) _).setCell (p := ⟨w.heap.size, 2, none⟩) (by simp) _).setCell (p := ⟨w.heap.size, 3, none⟩) (by simp) _)⟩
set_option maxHeartbeats 1000000 in
theorem sym11_any (s : ByteArray) (w : World) : Calls Tryz.prog 34 #[.string s] w fun e w' => e = .returned (.agg #[.int .u8 2, .int .i64 0, .string s, .slice none 0 0]) ∧ Below w.heap.size w w' := by
  obtain ⟨W, hW⟩ : ∃ W, w.alloc (.cells #[.int .u8 0, .int .i64 0, .string ⟨#[]⟩, .slice none 0 0] 46) = W := ⟨_, rfl⟩
  have hb : Below w.heap.size w W := by rw [← hW]; exact (Below.refl _ _).alloc (Nat.le_refl _) _
  have hR : W.heap[w.heap.size]? = some (.cells #[.int .u8 0, .int .i64 0, .string ⟨#[]⟩, .slice none 0 0] 46 (0, 0)) := by rw [← hW]; exact World.alloc_heap_new _ _
  have y0 := cells_at hR 0 _ rfl
  have y1 := cells_at hR 1 _ rfl
  have y2 := cells_at hR 2 _ rfl
  have y3 := cells_at hR 3 _ rfl
  have f0 := frozen_of_row W w.heap.size 0 _ _ hR
  have f1 := frozen_of_row W w.heap.size 1 _ _ hR
  have f2 := frozen_of_row W w.heap.size 2 _ _ hR
  have f3 := frozen_of_row W w.heap.size 3 _ _ hR
  have HB := Lib.hid hb
  have HR := Lib.hid hR
  clear hR hb
  go_enter Tryz.func34, Tryz.ntmps34
  go_wp2
  have rr := (heap_setCell_same _ w.heap.size 3 _ _ (.slice none 0 0) (heap_setCell_same _ w.heap.size 2 _ _ (.string s) (heap_setCell_same _ w.heap.size 1 _ _ (.int .i64 0) (heap_setCell_same _ w.heap.size 0 _ _ (.int .u8 2) HR.out))))
  have z0 := cells_at rr 0 _ rfl
  have z1 := cells_at rr 1 _ rfl
  have z2 := cells_at rr 2 _ rfl
  have z3 := cells_at rr 3 _ rfl
  refine bodyPost_ret (v := .agg #[.int .u8 2, .int .i64 0, .string s, .slice none 0 0]) (by simp [results, Tryz.f34, go_sem, z0, z1, z2, z3]) rfl ?_
  exact ⟨rfl, ((((HB.out.setCell (p := ⟨w.heap.size, 0, none⟩) (by simp) _).setCell (p := ⟨w.heap.size, 1, none⟩) (by simp) _).setCell (p := ⟨w.heap.size, 2, none⟩) (by simp) _).setCell (p := ⟨w.heap.size, 3, none⟩) (by simp) _)⟩
set_option maxHeartbeats 1000000 in
theorem fun11_any (s : ByteArray) (a : Option Addr) (n c : Nat) (w : World) : Calls Tryz.prog 35 #[.string s, .slice a n c] w fun e w' => e = .returned (.agg #[.int .u8 4, .int .i64 0, .string s, .slice a n c]) ∧ Below w.heap.size w w' := by
  obtain ⟨W, hW⟩ : ∃ W, w.alloc (.cells #[.int .u8 0, .int .i64 0, .string ⟨#[]⟩, .slice none 0 0] 46) = W := ⟨_, rfl⟩
  have hb : Below w.heap.size w W := by rw [← hW]; exact (Below.refl _ _).alloc (Nat.le_refl _) _
  have hR : W.heap[w.heap.size]? = some (.cells #[.int .u8 0, .int .i64 0, .string ⟨#[]⟩, .slice none 0 0] 46 (0, 0)) := by rw [← hW]; exact World.alloc_heap_new _ _
  have y0 := cells_at hR 0 _ rfl
  have y1 := cells_at hR 1 _ rfl
  have y2 := cells_at hR 2 _ rfl
  have y3 := cells_at hR 3 _ rfl
  have f0 := frozen_of_row W w.heap.size 0 _ _ hR
  have f1 := frozen_of_row W w.heap.size 1 _ _ hR
  have f2 := frozen_of_row W w.heap.size 2 _ _ hR
  have f3 := frozen_of_row W w.heap.size 3 _ _ hR
  have HB := Lib.hid hb
  have HR := Lib.hid hR
  clear hR hb
  go_enter Tryz.func35, Tryz.ntmps35
  go_wp2
  have rr := (heap_setCell_same _ w.heap.size 3 _ _ (.slice a n c) (heap_setCell_same _ w.heap.size 2 _ _ (.string s) (heap_setCell_same _ w.heap.size 1 _ _ (.int .i64 0) (heap_setCell_same _ w.heap.size 0 _ _ (.int .u8 4) HR.out))))
  have z0 := cells_at rr 0 _ rfl
  have z1 := cells_at rr 1 _ rfl
  have z2 := cells_at rr 2 _ rfl
  have z3 := cells_at rr 3 _ rfl
  refine bodyPost_ret (v := .agg #[.int .u8 4, .int .i64 0, .string s, .slice a n c]) (by simp [results, Tryz.f35, go_sem, z0, z1, z2, z3]) rfl ?_
  exact ⟨rfl, ((((HB.out.setCell (p := ⟨w.heap.size, 0, none⟩) (by simp) _).setCell (p := ⟨w.heap.size, 1, none⟩) (by simp) _).setCell (p := ⟨w.heap.size, 2, none⟩) (by simp) _).setCell (p := ⟨w.heap.size, 3, none⟩) (by simp) _)⟩
set_option maxHeartbeats 1000000 in
theorem atom11_any (s : ByteArray) (a : Option Addr) (n c : Nat) (w : World) : Calls Tryz.prog 32 #[.string s, .slice a n c] w fun e w' => e = .returned (.agg #[.string s, .slice a n c]) ∧ Below w.heap.size w w' := by
  obtain ⟨W, hW⟩ : ∃ W, w.alloc (.cells #[.string ⟨#[]⟩, .slice none 0 0] 24) = W := ⟨_, rfl⟩
  have hb : Below w.heap.size w W := by rw [← hW]; exact (Below.refl _ _).alloc (Nat.le_refl _) _
  have hR : W.heap[w.heap.size]? = some (.cells #[.string ⟨#[]⟩, .slice none 0 0] 24 (0, 0)) := by rw [← hW]; exact World.alloc_heap_new _ _
  have y0 := cells_at hR 0 _ rfl
  have y1 := cells_at hR 1 _ rfl
  have f0 := frozen_of_row W w.heap.size 0 _ _ hR
  have f1 := frozen_of_row W w.heap.size 1 _ _ hR
  have HB := Lib.hid hb
  have HR := Lib.hid hR
  clear hR hb
  go_enter Tryz.func32, Tryz.ntmps32
  go_wp2
  have rr := (heap_setCell_same _ w.heap.size 1 _ _ (.slice a n c) (heap_setCell_same _ w.heap.size 0 _ _ (.string s) HR.out))
  have z0 := cells_at rr 0 _ rfl
  have z1 := cells_at rr 1 _ rfl
  refine bodyPost_ret (v := .agg #[.string s, .slice a n c]) (by simp [results, Tryz.f32, go_sem, z0, z1]) rfl ?_
  exact ⟨rfl, ((HB.out.setCell (p := ⟨w.heap.size, 0, none⟩) (by simp) _).setCell (p := ⟨w.heap.size, 1, none⟩) (by simp) _)⟩
end Go.Proofs.YtcoieohbmkjpoaaGreatDoor
namespace Go.Proofs.YtcoieohbmkjpoaaGreatDoor
open Go.RowKit Go.Shelf Go.Maps
attribute [local go_sem] Oper.semAt_some

theorem run_neq_ptr_nil {P : Program} {tp te : TypeId} (w : World) (a : Addr) (hp : P.underlying tp = some (.pointer te)) : (binOp .neq tp (.pointer (some a)) (.pointer none)).run P w = .ok (.bool true) w := by
  have h : ∀ d : Nat, (Op.equalIn (d + 1) tp (.pointer (some a)) (.pointer none)).run P w = .ok false w := fun d => by simp [Op.equalIn, run_underlying hp]
  simp only [binOp]
  simp [Op.equal, Op.maxDepth, h 9999]
noncomputable def addAll (A : List Ato) : List Ato → List Ato
  | [] => A
  | x :: xs => addAll (addL A x) xs
noncomputable def okAll (A : List Ato) : List Ato → Bool
  | [] => true
  | x :: xs => ((addR A x).2 == 0) && okAll (addL A x) xs
set_option maxRecDepth 100000 in
set_option maxHeartbeats 4000000 in
theorem filled_any (L : List Ato) (lv : Value) (w : World) (hT : Tab10 w) (h : LstR w lv L) (hc : ∀ x ∈ L, cntA x ≤ 1000000) :
    Calls Tryz.prog 36 #[lv] w fun e w' => ∃ S lab, e = .returned (.tuple #[.pointer (some ⟨S, 0, none⟩), .bool (okAll [] L)]) ∧ StI w' w.heap.size lab S (addAll [] L) ∧ Below w.heap.size w w' := by
  obtain ⟨a, c, rfl⟩ : ∃ a c, lv = .slice a L.length c := by obtain ⟨xs, ho, _⟩ := h; exact own_slice ho
  have hl : L.length ≤ 9223372036854775807 := by
    obtain ⟨xs, ho, _⟩ := h
    rcases ho.2 with ⟨_, e⟩ | ⟨g, cap, cur, e, _, _, h1, h2, _⟩
    · omega
    · unfold maxLen at h2; omega
  obtain ⟨RR, hRR⟩ : ∃ R, addAll [] L = R := ⟨_, rfl⟩
  obtain ⟨KK, hKK⟩ : ∃ K, okAll [] L = K := ⟨_, rfl⟩
  rw [hRR, hKK]
  have HA := Lib.hid h
  have HN := Lib.hid (new_any w hT)
  have HC := Lib.hid hc
  have hq : ∀ (S : Nat) (w : World), (binOp .neq 31 (.pointer (some ⟨S, 0, none⟩)) (.pointer none)).run Tryz.prog w = .ok (.bool true) w := fun S w => run_neq_ptr_nil w _ Tryz.underlying31
  clear h hT hc
  go_enter Tryz.func36, Tryz.ntmps36
  go_wp2_with (go_at_call 14; refine HN.out.mono ?_; rintro e w1 ⟨S, lab, rfl, hI, hb1⟩; have HI1 := Lib.hid hI; have HB1 := Lib.hid hb1; have hqS := hq S; clear hI hb1)
  clear hq
  go_loopw [5, 6] (fun v i wr => ∃ (j : Nat) (lab : Lab) (A : List Ato) (b : Bool), j ≤ L.length ∧ i = .int .i64 j ∧ v = .bool b ∧ StI wr w.heap.size lab S A ∧ addAll A (L.drop j) = RR ∧ (b && okAll A (L.drop j)) = KK ∧ Below w.heap.size w wr) (fun _ i _ => L.length - (intOf i).toNat)
  case atStart => exact ⟨0, lab, [], true, by omega, by go_num, rfl, HI1.out, by simpa using hRR, by simpa using hKK, HB1.out⟩
  case round =>
    obtain ⟨j, lab2, A, b, hj, rfl, rfl, hI, hr, hk, hBr⟩ := hrel
    clear hRR hKK
    by_cases hlt : j < L.length
    · rw [List.drop_eq_getElem_cons hlt] at hr hk
      obtain ⟨g, cc, av, k, e, g0, g1, hx⟩ := HA.out.at j hlt
      simp only [Value.slice.injEq] at e
      obtain ⟨rfl, _, rfl⟩ := e
      replace g0 := (hBr.cell (p := ⟨g, j * 2, none⟩) (block_lt_of_cell g0)).trans g0
      replace g1 := (hBr.cell (p := ⟨g, j * 2 + 1, none⟩) (block_lt_of_cell g1)).trans g1
      have hcx := HC.out _ (List.getElem_mem hlt)
      obtain ⟨x, hx1⟩ : ∃ x, L[j] = x := ⟨_, rfl⟩
      rw [hx1] at hr hk g0 g1 hx hcx
      have hadd := add_any w.heap.size S lab2 A x av k wr hI (hx.same (fun b hb => ⟨Nat.lt_of_lt_of_le hb hBr.size, by
        apply Classical.byContradiction
        intro hne
        have := (hI.mine b hne).1
        omega⟩) (fun b hb => hBr.block b hb)) hcx
      obtain ⟨p, us⟩ := x
      simp only at g0 g1 hadd
      have hmine := fun b h => (hI.mine b h).1
      have HADD := Lib.hid hadd
      have HM := Lib.hid hmine
      have HBR := Lib.hid hBr
      have HR := Lib.hid hr
      have HK := Lib.hid hk
      clear hadd hx hx1 hcx hI hmine hr hk hBr
      have i1 : (0 : Int) ≤ (j : Int) := by omega
      have i2 : (j : Int) < (L.length : Int) := by omega
      obtain ⟨r, hr⟩ : ∃ r, addR A (p, us) = r := ⟨_, rfl⟩
      rw [hr] at HADD
      have HRR := Lib.hid hr
      clear hr
      obtain ⟨r1, r2⟩ := r
      cases b
      all_goals
        go_wp2_with (go_at_call 15; refine HADD.out.mono ?_; rintro e w2 ⟨rfl, lab3, hI3, _, hs3⟩; have HI3 := Lib.hid hI3; have HB3 := Lib.hid (hs3.low HBR.out.size HM.out); clear hI3 hs3)
        go_roundw
        case rel => exact ⟨j + 1, lab3, addL A (p, us), _, by omega, by go_num, rfl, HI3.out, HR.out, by have := HK.out; simpa [okAll, HRR.out] using this, HBR.out.trans HB3.out⟩
        case measure => simp [intOf]; omega
    · rw [List.drop_eq_nil_of_le (by omega)] at hr hk
      simp only [addAll, okAll, Bool.and_true] at hr hk
      subst hr hk
      have HI := Lib.hid hI
      have HB := Lib.hid hBr
      clear hI hBr
      go_wp2
      go_returns
      exact ⟨S, lab2, rfl, HI.out, HB.out⟩
end Go.Proofs.YtcoieohbmkjpoaaGreatDoor
