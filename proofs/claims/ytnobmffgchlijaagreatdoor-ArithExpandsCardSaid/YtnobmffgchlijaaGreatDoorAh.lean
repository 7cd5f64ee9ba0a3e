/- A loop over an iterator of the program's own that is never left early: every round runs to its end, or panics. The iterator writes cells of its own between two rounds. -/
import Derived.Test.YtnobmffgchlijaaGreatDoorAb
import Derived.RangeFuncNested
import Derived.RangeFuncCalls
import Derived.RangeFuncLeaves
import Derived.Shelf.Abstract
import Derived.WalkKit
import Derived.OwnWalkIn
import Derived.TacticsInMore
import Derived.LoopNIn
import Derived.LoopIn
import Derived.Test.YtnobmffgchlijaaGreatDoorProg
namespace Go.Proofs.YtnobmffgchlijaaGreatDoor
open Go.RowKit

/-! The walk of a body in a frame that is known. -/
/-- From the code on, in frame b. -/
def wpOn (P : Program) (b : Frame) (c : Code) (Q : Exit → Act → World → Prop) (a : Act) (w : World) : Prop :=
  ∀ (k : List Item) (cs : List Frame), ∃ e a' w', Q e a' w' ∧ ArrivesIn (Machine.fenced P Fence.wide) P (lone (b.atR a (.code c :: k)) cs w) b k cs e a' w'
section
variable {P : Program} {b : Frame} {Q : Exit → Act → World → Prop} {a : Act} {w : World} {n : Nat}
theorem wpOn_of {c : Code} (hr : b.roundOf = none) (h : c.wpIn Fence.wide n P Q a w) : wpOn P b c Q a w := fun k cs => h b k cs hr trivial (room_wide _)
theorem to_wide {m m' : Machine} (h : step P m = .next m') : StepsIn (Machine.fenced P Fence.wide) P m m' := .one (fenced_wide P m) h
theorem wpOn_seq {x y : Code} (h : wpOn P b x (Exit.then (wpOn P b y Q) Q) a w) : wpOn P b (.seq x y) Q a w := by
  intro k cs
  obtain ⟨e, a₁, w₁, hq, hs⟩ := h (.code y :: k) cs
  have h1 : StepsIn (Machine.fenced P Fence.wide) P (lone (b.atR a (.code (.seq x y) :: k)) cs w) (lone (b.atR a (.code x :: .code y :: k)) cs w) := to_wide stepR_seq
  match e, hq, hs with
  | .normal, hq, hs =>
    obtain ⟨e₂, a₂, w₂, hq₂, hs₂⟩ := hq k cs
    exact ⟨e₂, a₂, w₂, hq₂, .of_steps (h1.trans hs) hs₂⟩
  | .exit _, hq, hs | .goto _, hq, hs | .ret, hq, hs | .panic _, hq, hs | .outgrown, hq, hs =>
    exact ⟨_, a₁, w₁, hq, .of_steps h1 (.pass (x := .code y) rfl (fun _ _ => .inl (by simp)) hs)⟩
/-- A block whose code ends normally or panics. -/
theorem wpOn_block {id : Nat} {c : Code} (h : wpOn P b c (fun e a w => match e with | .normal => Q .normal a w | .panic ch => Q (.panic ch) a w | _ => False) a w) : wpOn P b (.block id c) Q a w := by
  intro k cs
  obtain ⟨e, a₁, w₁, hq, hs⟩ := h (.inBlock id :: k) cs
  have h1 : StepsIn (Machine.fenced P Fence.wide) P (lone (b.atR a (.code (.block id c) :: k)) cs w) (lone (b.atR a (.code c :: .inBlock id :: k)) cs w) := to_wide stepR_block
  match e, hq, hs with
  | .normal, hq, hs => exact ⟨.normal, a₁, w₁, hq, h1.trans (StepsIn.trans hs (to_wide stepR_inBlock))⟩
  | .panic ch, hq, hs => exact ⟨_, a₁, w₁, hq, .of_steps h1 hs⟩
  | .exit _, hq, _ | .goto _, hq, _ | .ret, hq, _ | .outgrown, hq, _ => exact hq.elim
end

/-- A function's contract from its body, in the frame that is entered; a loop over an iterator may have left its mark. -/
theorem calls_on {P : Program} {f : FuncId} {fn : Func} {c : Code} {args : Array Value} {w : World} {R : Ending → World → Prop} {n : Nat} (hf : P.funcs[f]? = some fn) (hb : fn.body = some c)
    (h : ∀ b : Frame, b.fn = f → b.kind = .normal → b.roundOf = none → wpOn P b c (bodyPostM Fence.wide n P fn R) { tmps := args ++ Array.replicate (fn.ntmps - args.size) undef, defers := [] } w) : CallsIn Fence.wide n P f args w R := by
  refine ⟨trivial, fun cs _ => ?_⟩
  obtain ⟨b, hbe⟩ : ∃ b : Frame, b = { (default : Frame) with fn := f, kind := .normal, roundOf := none } := ⟨_, rfl⟩
  have hbf : b.fn = f := by rw [hbe]
  have hbk : b.kind = .normal := by rw [hbe]
  have hbr : b.roundOf = none := by rw [hbe]
  have h0 : Frame.enter P f args .normal = b.atR { tmps := args ++ Array.replicate (fn.ntmps - args.size) undef, defers := [] } [.code c] := by
    rw [hbe]; simp [Frame.enter, Frame.atR, hf, hb]
  obtain ⟨e, a', w', hq, hs⟩ := h b hbf hbk hbr [] cs
  rw [← h0] at hs
  have out : ∀ (todo : List Item) (u : FrameMode), LeavesInM Fence.wide n P fn a'.tmps R a'.defers u w' → ∃ e w'' fr, R e w'' ∧ ComesIn (Machine.fenced P Fence.wide) P (lone { b.atR a' todo with mode := u } cs w') (lone fr cs w'') e ∧ fr.fn = f ∧ fr.leaving P w'' e := by
    intro todo u hl
    obtain ⟨e, w'', fr, h1, h2, h3, h4⟩ := leaves_stepsInM a'.defers u w' { b.atR a' todo with mode := u } cs rfl rfl rfl (by show P.funcs[b.fn]? = _; rw [hbf]; exact hf) hbk trivial (room_wide _) hl
    exact ⟨e, w'', fr, h1, h2, h3.trans hbf, h4⟩
  match e, hq, hs with
  | .normal, hq, hs =>
    obtain ⟨e, w'', fr, h1, h2, h3, h4⟩ := out [] .returning hq
    exact ⟨e, w'', fr, h1, ComesIn.of_steps (StepsIn.trans hs (to_wide (stepR_end hbr))) h2, h3, h4⟩
  | .ret, hq, hs =>
    obtain ⟨todo, hs⟩ := hs.1 hbr
    obtain ⟨e, w'', fr, h1, h2, h3, h4⟩ := out todo .returning hq
    exact ⟨e, w'', fr, h1, ComesIn.of_steps hs h2, h3, h4⟩
  | .panic ch, hq, hs =>
    obtain ⟨todo, hs⟩ := hs
    obtain ⟨e, w'', fr, h1, h2, h3, h4⟩ := out todo (.panicking ch) hq
    exact ⟨e, w'', fr, h1, ComesIn.of_steps hs h2, h3, h4⟩
  | .exit _, hq, _ | .goto _, hq, _ => exact hq.elim
  | .outgrown, hq, hs => exact ⟨.outgrown, w', b, hq, hs.resolve_left (by rw [hbk]; simp), hbf, trivial⟩

/-! A round. -/
/-- How a round may end: off its end, or by a panic that nothing in it defers. -/
def roundEnd (P : Program) (l : Nat) (R : Ending → World → Prop) : Exit → Act → World → Prop
  | .normal, _, w => ∃ v w', (Instr.endRound l none).run P w = .ok v w' ∧ R (.returned v) w'
  | .panic chain, a, w => a.defers = [] ∧ R (.panicked chain) w
  | _, _, _ => False
theorem round_of_walk {n : Nat} {P : Program} {l : Nat} {f : FuncId} {fn : Func} (hf : P.funcs[f]? = some fn) {tmps : Array Value} {assign body : Code} {w : World} {R : Ending → World → Prop}
    (h : assign.wpIn (Fence.wide.inRound l) n P (Exit.then (fun a₁ w₁ => ∃ w₂, (Instr.beginRound l).run P w₁ = .ok () w₂ ∧ body.wpIn (Fence.wide.inRound l) n P (roundEnd P l R) a₁ w₂) (fun _ _ _ => False)) { tmps := tmps, defers := [] } w) :
    RoundIn Fence.wide n P l f tmps assign body w R := by
  refine ⟨trivial, fun c cs hr => ?_⟩
  obtain ⟨b, hb⟩ : ∃ b : Frame, b = { (default : Frame) with fn := f, kind := .normal, roundOf := some l } := ⟨_, rfl⟩
  have hbk : b.kind = .normal := by rw [hb]
  have hbr : b.roundOf = some l := by rw [hb]
  have hbf : b.fn = f := by rw [hb]
  have h0 : Frame.round l f tmps assign body .normal = b.atR { tmps := tmps, defers := [] } [.code assign, .beginRound, .code body] := by rw [hb]; simp [Frame.round, Frame.atR]
  have hw : ∀ {m m' : Machine}, StepsIn (Machine.fenced P (Fence.wide.inRound l)) P m m' → StepsIn (Machine.fenced P Fence.wide) P m m' := fun h => h.mono fun m _ => fenced_wide P m
  obtain ⟨e, a₁, w₁, hq, hs⟩ := h b [.beginRound, .code body] (c :: cs) hbr trivial hr
  rw [← h0] at hs
  match e, hq, hs with
  | .normal, hq, hs =>
    obtain ⟨w₂, hbeg, hbody⟩ := hq
    have s1 : StepsIn (Machine.fenced P Fence.wide) P (lone (b.atR a₁ [.beginRound, .code body]) (c :: cs) w₁) (lone (b.atR a₁ [.code body]) (c :: cs) w₂) := to_wide (stepR_beginRound hbr hbeg)
    obtain ⟨e₂, a₂, w₃, hq₂, hs₂⟩ := hbody b [] (c :: cs) hbr trivial hr
    match e₂, hq₂, hs₂ with
    | .normal, hq₂, hs₂ =>
      obtain ⟨v, w₄, hend, hR⟩ := hq₂
      exact ⟨.returned v, w₄, hR, StepsIn.trans (hw hs) (StepsIn.trans s1 (StepsIn.trans (hw hs₂) (to_wide (stepR_round_end hbr hbk hend))))⟩
    | .panic chain, hq₂, hs₂ =>
      obtain ⟨hd, hR⟩ := hq₂
      obtain ⟨todo, hs₂⟩ := hs₂
      exact ⟨.panicked chain, w₃, hR, StepsIn.trans (hw hs) (StepsIn.trans s1 (StepsIn.trans (hw hs₂) (to_wide (step_leave_panicked ⟨rfl, hd, fn, by show P.funcs[b.fn]? = _; rw [hbf]; exact hf⟩))))⟩
    | .ret, hq₂, _ | .exit _, hq₂, _ | .goto _, hq₂, _ | .outgrown, hq₂, _ => exact hq₂.elim
  | .ret, hq, _ | .exit _, hq, _ | .goto _, hq, _ | .panic _, hq, _ | .outgrown, hq, _ => exact hq.elim

/-! The loop. -/
/-- A caller's invariant bears what the iterator does. -/
def BearsO {β : Type} (Ab : World → World → Prop) (I : β → World → Prop) : Prop := ∀ s A B, I s A → Ab A B → I s B
/-- The contract of an iterator whose caller never stops it: it hands on all of a list, one after the other, each told by C; or a round panics, and so does it. Between the rounds it writes the block g alone, which it has made itself. -/
def SeqAll {α : Type} (n : Nat) (P : Program) (f : Nat) (lb : Array Value) (encs : Nat → α → Array Value) (Ab Kp : Nat → World → World → Prop) (C : Nat → α → World → Prop) (all : List α) (w : World) : Prop :=
  ∀ (l : Nat) (J : Option Nat → List α → World → Prop) (Jp : List PanicEntry → World → Prop) (W : World), Below w.heap.size w W → (∀ g, W.heap.size ≤ g → BearsO (Ab g) (J (some g))) →
    (∀ g W2, W.heap.size ≤ g → g < W2.heap.size → Below W.heap.size W W2 → J (some g) [] W2) →
    (∀ m g pre x W1, W.heap.size ≤ g → pre ++ [x] <+: all → J (some g) pre W1 → C g x W1 → YieldAt Fence.wide m P l (encs g x) W1 fun e W' => (e = .returned (.bool true) ∧ J (some g) (pre ++ [x]) W' ∧ Kp g W1 W') ∨ (∃ ch, e = .panicked ch ∧ Jp ch W')) →
    J none [] W →
    CallsIn Fence.wide n P f (#[.func (.yield l) #[] #[]] ++ lb) W fun e W' => (∃ v o, e = .returned v ∧ J o all W') ∨ (∃ ch, e = .panicked ch ∧ Jp ch W')

/-- How a round's body ends. -/
def bodyEnd {α : Type} (B : Nat) (Kp : World → World → Prop) (I : List α → World → Prop) (Ip : List PanicEntry → World → Prop) (xs : List α) (W : World) : Exit → Act → World → Prop
  | .normal, _, W3 => KeepsFrom B W W3 ∧ Kp W W3 ∧ I xs W3
  | .panic ch, a, W3 => a.defers = [] ∧ KeepsFrom B W W3 ∧ Ip ch W3
  | _, _, _ => False

theorem range_on {α : Type} {P : Program} {b : Frame} {fn : Func} (hf : P.funcs[b.fn]? = some fn) (hro : b.roundOf = none) {g : Operand} {ps : Array Tmp} {assign body : Code} {Q : Exit → Act → World → Prop} {a : Act} {w : World}
    {gf : Nat} {lb : Array Value} (hg : a.eval g = .func (.func gf) #[] lb) (eg : ∀ args w, (callFunc gf args).run P w = .ok (.enter gf args) w)
    {n : Nat} {encs : Nat → α → Array Value} {Ab Kp : Nat → World → World → Prop} {C : Nat → α → World → Prop} {all : List α} (hseq : SeqAll n P gf lb encs Ab Kp C all w)
    (hAb : ∀ (g : Nat) (A B : World) (l : Nat) (o : Obj), l ≠ g → Ab g A B → A.heap[l]? = some o → o.isCells = false → B.heap[l]? = some o)
    (hKt : ∀ (g : Nat) {A B C : World}, Kp g A B → Kp g B C → Kp g A C) (hKb : ∀ (g : Nat) (_ : α) (W : World) (l : Nat) (o o' : Obj), w.heap.size ≤ l → l ≠ g → W.heap[l]? = some o → o.isCells = false → Kp g W (W.putObj l o'))
    (hC : ∀ (g : Nat) (x : α) (W : World) (l : Nat) (o o' : Obj), C g x W → W.heap[l]? = some o → o.isCells = false → C g x (W.putObj l o')) (hps : ∀ g x, (encs g x).size = ps.size)
    (I : Option Nat → List α → World → Prop) (Ip : List PanicEntry → World → Prop) (hI : ∀ o, OwnFrom w.heap.size (I o)) (bI : ∀ g, w.heap.size ≤ g → BearsO (Ab g) (I (some g))) (h0 : I none [] w)
    (hst : ∀ (g : Nat) (W W2 : World), w.heap.size ≤ W.heap.size → I none [] W → W.heap.size ≤ g → g < W2.heap.size → Below W.heap.size W W2 → I (some g) [] W2) (Ax : Nat → Act → World → Prop) (hAx : ∀ g a', OwnFrom w.heap.size (fun (_ : Unit) W => Ax g a' W))
    (hassign : ∀ (m l g : Nat) (pre : List α) (x : α) (W : World) (K : Act → World → Prop), w.heap.size ≤ g → I (some g) pre W → C g x W → (∀ a' W', KeepsFrom w.heap.size W W' → Kp g W W' → I (some g) pre W' → C g x W' → Ax g a' W' → K a' W') →
      assign.wpIn (Fence.wide.inRound l) m P (Exit.then K (fun _ _ _ => False)) { tmps := (ps.zip (encs g x)).foldl (fun t (p, v) => t.setIfInBounds p v) a.tmps, defers := [] } W)
    (hbody : ∀ (m l g : Nat) (pre : List α) (x : α) (a' : Act) (W : World), w.heap.size ≤ l → w.heap.size ≤ g → pre ++ [x] <+: all → I (some g) pre W → C g x W → Ax g a' W → body.wpIn (Fence.wide.inRound l) m P (bodyEnd w.heap.size (Kp g) (I (some g)) Ip (pre ++ [x]) W) a' W)
    (hdone : ∀ (D : Nat) (o : Option Nat) (W : World), w.heap.size ≤ D → I o all W → W.heap[D]? = some (.deferred (some [])) → Q .normal { a with defers := { target := .collected D, args := #[] } :: a.defers } W)
    (hpan : ∀ (D : Nat) (ch : List PanicEntry) (W : World), w.heap.size ≤ D → Ip ch W → W.heap[D]? = some (.deferred (some [])) → Q (.panic ch) { a with defers := { target := .collected D, args := #[] } :: a.defers } W) :
    wpOn P b (.rangeFunc g ps assign body) Q a w := by
  intro k cs
  obtain ⟨D, hD⟩ : ∃ D, w.heap.size = D := ⟨_, rfl⟩
  obtain ⟨rec, hrec⟩ : ∃ rec : LoopState → Option Code → Loop, rec = fun st pe => { state := st, pending := pe, fn := b.fn, tmps := a.tmps, params := ps, assign, body, defers := D } := ⟨_, rfl⟩
  obtain ⟨W1, hW1⟩ : ∃ W1, (w.alloc (.deferred (some []))).alloc (.loop (rec .ready none)) = W1 := ⟨_, rfl⟩
  have hB1 : Below w.heap.size w W1 := by rw [← hW1]; exact ((Below.refl _ w).alloc (Nat.le_refl _) _).alloc (by simp) _
  have hz1 : W1.heap.size = w.heap.size + 2 := by rw [← hW1]; simp
  have hL1 : W1.heap[D + 1]? = some (.loop (rec .ready none)) := by
    rw [← hW1, ← hD]
    have h := World.alloc_heap_new (w.alloc (.deferred (some []))) (.loop (rec .ready none))
    rwa [World.size_alloc] at h
  have hK1 : W1.heap[D]? = some (.deferred (some [])) := by
    rw [← hW1, ← hD]
    exact (Below.heap_alloc _ _ _ (by simp)).trans (World.alloc_heap_new w _)
  have hI1 : I none [] W1 := by rw [← hW1]; exact (hI none).alloc _ ((hI none).alloc _ h0)
  have hent : (Instr.enterLoop b.fn a.tmps ps assign body b.roundOf).run P w = .ok (D + 1, [{ target := .collected D, args := #[] }]) W1 := by
    rw [hro, ← hW1, hrec, ← hD]; exact run_enterLoop_outer _ _ _ _ _
  have hres : (resolve a.eval (rangeCall g (D + 1)) 0).run P W1 = .ok { target := .fn (.func gf) lb, args := #[.func (.yield (D + 1)) #[] #[]] } W1 := by
    simp only [resolve, hg]; simp [go_sem]
  have hinv : (invoke (.fn (.func gf) lb) #[.func (.yield (D + 1)) #[] #[]]).run P W1 = .ok (.enter gf (#[.func (.yield (D + 1)) #[] #[]] ++ lb)) W1 := by
    simp [invoke, go_sem, eg]
  have hgo := stepR_rangeFunc (P := P) (b := b) (a := a) (k := k) (cs := cs) (w := w) hent hres hinv
  have hcall := hseq (D + 1)
    (fun o pre W => I o pre W ∧ W.heap[D + 1]? = some (.loop (rec .ready none)) ∧ W.heap[D]? = some (.deferred (some [])))
    (fun ch W => Ip ch W ∧ W.heap[D]? = some (.deferred (some [])))
    W1 hB1
    (fun g hgW s A B hs hab => ⟨bI g (by omega) s A B hs.1 hab, hAb g A B _ _ (by omega) hab hs.2.1 rfl, hAb g A B _ _ (by omega) hab hs.2.2 rfl⟩)
    (fun g W2 h1 h2 h3 => ⟨hst g W1 W2 (by omega) hI1 h1 h2 h3, (h3.block _ (by omega)).trans hL1, (h3.block _ (by omega)).trans hK1⟩)
    ?round ⟨hI1, hL1, hK1⟩
  case round =>
    rintro m g pre x Wa hgW hpf ⟨hi, hl, hk⟩ hc
    have hgd : w.heap.size ≤ g := by omega
    have hne : D + 1 ≠ g := by omega
    have hy := run_yield (P := P) (args := encs g x) hl (by rw [hrec]; exact hps g x)
    refine ⟨b.fn, _, assign, body, by rw [hrec] at hy; exact hy, round_of_walk hf (hassign m _ g pre x Wa _ hgd hi hc ?_)⟩
    clear hy
    intro a' W hkf hkp hi' hc' hax
    have hl' := hkf.same _ _ (by omega) hl rfl
    have hk' := hkf.same _ _ (by omega) hk rfl
    have hlt : D + 1 < W.heap.size := (Array.getElem?_eq_some_iff.1 hl').1
    refine ⟨_, run_beginRound hl' (by rw [hrec]), ?_⟩
    obtain ⟨Wb, hWb⟩ : ∃ Wb, W.putObj (D + 1) (.loop { rec .ready none with state := .busy }) = Wb := ⟨_, rfl⟩
    have hlb : Wb.heap[D + 1]? = some (.loop { rec .ready none with state := .busy }) := by rw [← hWb]; exact World.putObj_heap_same hlt
    have hkb : Wb.heap[D]? = some (.deferred (some [])) := by rw [← hWb]; exact (World.putObj_heap_other (by omega)).trans hk'
    have hib : I (some g) pre Wb := by rw [← hWb]; exact (hI _).putObj _ hi' (by omega) hl' rfl
    have hcb : C g x Wb := by rw [← hWb]; exact hC g x W _ _ _ hc' hl' rfl
    have haxb : Ax g a' Wb := by rw [← hWb]; exact (hAx g a').putObj (s := ()) _ hax (by omega) hl' rfl
    have hkpb : Kp g W Wb := by rw [← hWb]; exact hKb g x _ _ _ _ (by omega) hne hl' rfl
    rw [hWb]
    refine wpIn_mono (hbody m (D + 1) g pre x a' Wb (by omega) hgd hpf hib hcb haxb) ?_
    rw [hD]
    intro e a3 W3 hp
    match e, hp with
    | .normal, hp =>
      obtain ⟨h3, hkp3, hi3⟩ := hp
      have hl3 := h3.same _ _ (by omega) hlb rfl
      have hr := run_endRound (P := P) none hl3
      refine ⟨_, _, hr, .inl ⟨rfl, ⟨(hI _).putObj _ hi3 (by omega) hl3 rfl, ?_, ?_⟩, hKt g hkp (hKt g (hKt g hkpb hkp3) (hKb g x _ _ _ _ (by omega) hne hl3 rfl))⟩⟩
      · rw [World.putObj_heap_same (Array.getElem?_eq_some_iff.1 hl3).1, hrec]; rfl
      · exact (World.putObj_heap_other (by omega)).trans (h3.same _ _ (by omega) hkb rfl)
    | .panic ch, hp => exact ⟨hp.1, .inr ⟨ch, rfl, hp.2.2, hp.2.1.same _ _ (by omega) hkb rfl⟩⟩
  obtain ⟨e, w₃, fr, hR, hs, _, hleave⟩ := hcall.2 (b.atR { a with defers := { target := .collected D, args := #[] } :: a.defers } (.inRangeFunc (D + 1) :: k) :: cs) (room_wide _)
  rcases hR with ⟨v, o, rfl, hi, hl, hk⟩ | ⟨ch, rfl, hi, hk⟩
  · have hend := run_endLoop (P := P) hl (by rw [hrec]; simp)
    have hend' : (Instr.endLoop (D + 1)).run P w₃ = .ok none (w₃.putObj (D + 1) (.loop { rec .ready none with state := .exhausted })) := by rw [hrec] at hend ⊢; exact hend
    refine ⟨.normal, _, w₃.putObj (D + 1) (.loop { rec .ready none with state := .exhausted }), hdone D o _ (by omega) ((hI o).putObj _ hi (by omega) hl rfl) ((World.putObj_heap_other (by omega)).trans hk), ?_⟩
    refine StepsIn.trans (to_wide hgo) (StepsIn.trans hs (StepsIn.trans (to_wide (step_leave_returned hleave)) ?_))
    rw [finish_atR_inRangeFunc]
    exact to_wide (stepR_endRangeFunc hend')
  · refine ⟨.panic ch, _, _, hpan D ch _ (by omega) hi hk, .inRangeFunc (D + 1) :: k, StepsIn.trans (to_wide hgo) (StepsIn.trans hs ?_)⟩
    rw [← Frame.raise_atR]
    exact to_wide (step_leave_panicked hleave)
end Go.Proofs.YtnobmffgchlijaaGreatDoor
