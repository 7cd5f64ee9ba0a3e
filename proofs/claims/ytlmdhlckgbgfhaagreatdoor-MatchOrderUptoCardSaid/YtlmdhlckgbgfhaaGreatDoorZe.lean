/- Texts that belong together: A loop over an iterator of the program's own that is never left early: every round runs to its end, or panics. The iterator writes cells of its own between two rounds. Package arith: all choices of one term from each list. Package arith: all choices of one number from each list. Package arith: what the expansion of a term owes; copies of choices; rows of rows of terms. The same inside a fence: a r -/
import Derived.Test.YtlmdhlckgbgfhaaGreatDoorZd
import Derived.Test.YtlmdhlckgbgfhaaGreatDoorProg
import Derived.RangeFuncNested
import Derived.RangeFuncCalls
import Derived.RangeFuncLeaves
import Derived.Shelf.Abstract
import Derived.WalkKit
import Derived.OwnWalkIn
import Derived.TacticsInMore
import Derived.LoopNIn
import Derived.LoopIn
import Derived.WalkSpells
import Derived.OrdersIn
import Derived.TacticsIn
import Derived.CallsIn
set_option maxRecDepth 100000
set_option maxHeartbeats 400000000
namespace Go.Proofs.YtlmdhlckgbgfhaaGreatDoor
open Go.RowKit

def wpOn (P : Program) (b : Frame) (c : Code) (Q : Exit → Act → World → Prop) (a : Act) (w : World) : Prop :=
 ∀ (k : List Item) (cs : List Frame), ∃ e a' w', Q e a' w' ∧ ArrivesIn (Machine.fenced P Fence.wide) P (lone (b.atR a (.code c :: k)) cs w) b k cs e a' w'
section
variable {P : Program} {b : Frame} {Q : Exit → Act → World → Prop} {a : Act} {w : World} {n : Nat}
theorem wpOn_of {c : Code} (hr : b.roundOf = none) (h : c.wpIn Fence.wide n P Q a w) : wpOn P b c Q a w := fun k cs => h b k cs hr trivial (room_wide _)
theorem to_wide {m m' : Machine} (h : step P m = .next m') : StepsIn (Machine.fenced P Fence.wide) P m m' := .one (fenced_wide P m) h
theorem wpOn_seq {x y : Code} (h : wpOn P b x (Exit.then (wpOn P b y Q) Q) a w) : wpOn P b (.seq x y) Q a w := by
 intro k cs
 obtain ⟨e, a₁, w₁, hq, hs⟩ := h (.code y :: k) cs
 have h1 : StepsIn (Machine.fenced P Fence.wide) P (lone (b.atR a (.code (.seq x y) :: k)) cs w) (lone (b.atR a (.code x :: .code y :: k)) cs w) := to_wide stepR_seq
 match e, hq, hs with
 | .normal, hq, hs =>
   obtain ⟨e₂, a₂, w₂, hq₂, hs₂⟩ := hq k cs
   exact ⟨e₂, a₂, w₂, hq₂, .of_steps (h1.trans hs) hs₂⟩
 | .exit _, hq, hs | .goto _, hq, hs | .ret, hq, hs | .panic _, hq, hs | .outgrown, hq, hs =>
   exact ⟨_, a₁, w₁, hq, .of_steps h1 (.pass (x := .code y) rfl (fun _ _ => .inl (by simp)) hs)⟩
theorem wpOn_block {id : Nat} {c : Code} (h : wpOn P b c (fun e a w => match e with | .normal => Q .normal a w | .panic ch => Q (.panic ch) a w | _ => False) a w) : wpOn P b (.block id c) Q a w := by
 intro k cs
 obtain ⟨e, a₁, w₁, hq, hs⟩ := h (.inBlock id :: k) cs
 have h1 : StepsIn (Machine.fenced P Fence.wide) P (lone (b.atR a (.code (.block id c) :: k)) cs w) (lone (b.atR a (.code c :: .inBlock id :: k)) cs w) := to_wide stepR_block
 match e, hq, hs with
 | .normal, hq, hs => exact ⟨.normal, a₁, w₁, hq, h1.trans (StepsIn.trans hs (to_wide stepR_inBlock))⟩
 | .panic ch, hq, hs => exact ⟨_, a₁, w₁, hq, .of_steps h1 hs⟩
 | .exit _, hq, _ | .goto _, hq, _ | .ret, hq, _ | .outgrown, hq, _ => exact hq.elim
end

theorem calls_on {P : Program} {f : FuncId} {fn : Func} {c : Code} {args : Array Value} {w : World} {R : Ending → World → Prop} {n : Nat} (hf : P.funcs[f]? = some fn) (hb : fn.body = some c)
   (h : ∀ b : Frame, b.fn = f → b.kind = .normal → b.roundOf = none → wpOn P b c (bodyPostM Fence.wide n P fn R) { tmps := args ++ Array.replicate (fn.ntmps - args.size) undef, defers := [] } w) : CallsIn Fence.wide n P f args w R := by
 refine ⟨trivial, fun cs _ => ?_⟩
 obtain ⟨b, hbe⟩ : ∃ b : Frame, b = { (default : Frame) with fn := f, kind := .normal, roundOf := none } := ⟨_, rfl⟩
 have hbf : b.fn = f := by rw [hbe]
 have hbk : b.kind = .normal := by rw [hbe]
 have hbr : b.roundOf = none := by rw [hbe]
 have h0 : Frame.enter P f args .normal = b.atR { tmps := args ++ Array.replicate (fn.ntmps - args.size) undef, defers := [] } [.code c] := by
   rw [hbe]; simp [Frame.enter, Frame.atR, hf, hb]
 obtain ⟨e, a', w', hq, hs⟩ := h b hbf hbk hbr [] cs
 rw [← h0] at hs
 have out : ∀ (todo : List Item) (u : FrameMode), LeavesInM Fence.wide n P fn a'.tmps R a'.defers u w' → ∃ e w'' fr, R e w'' ∧ ComesIn (Machine.fenced P Fence.wide) P (lone { b.atR a' todo with mode := u } cs w') (lone fr cs w'') e ∧ fr.fn = f ∧ fr.leaving P w'' e := by
   intro todo u hl
   obtain ⟨e, w'', fr, h1, h2, h3, h4⟩ := leaves_stepsInM a'.defers u w' { b.atR a' todo with mode := u } cs rfl rfl rfl (by show P.funcs[b.fn]? = _; rw [hbf]; exact hf) hbk trivial (room_wide _) hl
   exact ⟨e, w'', fr, h1, h2, h3.trans hbf, h4⟩
 match e, hq, hs with
 | .normal, hq, hs =>
   obtain ⟨e, w'', fr, h1, h2, h3, h4⟩ := out [] .returning hq
   exact ⟨e, w'', fr, h1, ComesIn.of_steps (StepsIn.trans hs (to_wide (stepR_end hbr))) h2, h3, h4⟩
 | .ret, hq, hs =>
   obtain ⟨todo, hs⟩ := hs.1 hbr
   obtain ⟨e, w'', fr, h1, h2, h3, h4⟩ := out todo .returning hq
   exact ⟨e, w'', fr, h1, ComesIn.of_steps hs h2, h3, h4⟩
 | .panic ch, hq, hs =>
   obtain ⟨todo, hs⟩ := hs
   obtain ⟨e, w'', fr, h1, h2, h3, h4⟩ := out todo (.panicking ch) hq
   exact ⟨e, w'', fr, h1, ComesIn.of_steps hs h2, h3, h4⟩
 | .exit _, hq, _ | .goto _, hq, _ => exact hq.elim
 | .outgrown, hq, hs => exact ⟨.outgrown, w', b, hq, hs.resolve_left (by rw [hbk]; simp), hbf, trivial⟩

def roundEnd (P : Program) (l : Nat) (R : Ending → World → Prop) : Exit → Act → World → Prop
 | .normal, _, w => ∃ v w', (Instr.endRound l none).run P w = .ok v w' ∧ R (.returned v) w'
 | .panic chain, a, w => a.defers = [] ∧ R (.panicked chain) w
 | _, _, _ => False
theorem round_of_walk {n : Nat} {P : Program} {l : Nat} {f : FuncId} {fn : Func} (hf : P.funcs[f]? = some fn) {tmps : Array Value} {assign body : Code} {w : World} {R : Ending → World → Prop}
   (h : assign.wpIn (Fence.wide.inRound l) n P (Exit.then (fun a₁ w₁ => ∃ w₂, (Instr.beginRound l).run P w₁ = .ok () w₂ ∧ body.wpIn (Fence.wide.inRound l) n P (roundEnd P l R) a₁ w₂) (fun _ _ _ => False)) { tmps := tmps, defers := [] } w) :
   RoundIn Fence.wide n P l f tmps assign body w R := by
 refine ⟨trivial, fun c cs hr => ?_⟩
 obtain ⟨b, hb⟩ : ∃ b : Frame, b = { (default : Frame) with fn := f, kind := .normal, roundOf := some l } := ⟨_, rfl⟩
 have hbk : b.kind = .normal := by rw [hb]
 have hbr : b.roundOf = some l := by rw [hb]
 have hbf : b.fn = f := by rw [hb]
 have h0 : Frame.round l f tmps assign body .normal = b.atR { tmps := tmps, defers := [] } [.code assign, .beginRound, .code body] := by rw [hb]; simp [Frame.round, Frame.atR]
 have hw : ∀ {m m' : Machine}, StepsIn (Machine.fenced P (Fence.wide.inRound l)) P m m' → StepsIn (Machine.fenced P Fence.wide) P m m' := fun h => h.mono fun m _ => fenced_wide P m
 obtain ⟨e, a₁, w₁, hq, hs⟩ := h b [.beginRound, .code body] (c :: cs) hbr trivial hr
 rw [← h0] at hs
 match e, hq, hs with
 | .normal, hq, hs =>
   obtain ⟨w₂, hbeg, hbody⟩ := hq
   have s1 : StepsIn (Machine.fenced P Fence.wide) P (lone (b.atR a₁ [.beginRound, .code body]) (c :: cs) w₁) (lone (b.atR a₁ [.code body]) (c :: cs) w₂) := to_wide (stepR_beginRound hbr hbeg)
   obtain ⟨e₂, a₂, w₃, hq₂, hs₂⟩ := hbody b [] (c :: cs) hbr trivial hr
   match e₂, hq₂, hs₂ with
   | .normal, hq₂, hs₂ =>
     obtain ⟨v, w₄, hend, hR⟩ := hq₂
     exact ⟨.returned v, w₄, hR, StepsIn.trans (hw hs) (StepsIn.trans s1 (StepsIn.trans (hw hs₂) (to_wide (stepR_round_end hbr hbk hend))))⟩
   | .panic chain, hq₂, hs₂ =>
     obtain ⟨hd, hR⟩ := hq₂
     obtain ⟨todo, hs₂⟩ := hs₂
     exact ⟨.panicked chain, w₃, hR, StepsIn.trans (hw hs) (StepsIn.trans s1 (StepsIn.trans (hw hs₂) (to_wide (step_leave_panicked ⟨rfl, hd, fn, by show P.funcs[b.fn]? = _; rw [hbf]; exact hf⟩))))⟩
   | .ret, hq₂, _ | .exit _, hq₂, _ | .goto _, hq₂, _ | .outgrown, hq₂, _ => exact hq₂.elim
 | .ret, hq, _ | .exit _, hq, _ | .goto _, hq, _ | .panic _, hq, _ | .outgrown, hq, _ => exact hq.elim

def BearsO {β : Type} (Ab : World → World → Prop) (I : β → World → Prop) : Prop := ∀ s A B, I s A → Ab A B → I s B
def SeqAll {α : Type} (n : Nat) (P : Program) (f : Nat) (lb : Array Value) (encs : Nat → α → Array Value) (Ab Kp : Nat → World → World → Prop) (C : Nat → α → World → Prop) (all : List α) (w : World) : Prop :=
 ∀ (l : Nat) (J : Option Nat → List α → World → Prop) (Jp : List PanicEntry → World → Prop) (W : World), Below w.heap.size w W → (∀ g, W.heap.size ≤ g → BearsO (Ab g) (J (some g))) →
   (∀ g W2, W.heap.size ≤ g → g < W2.heap.size → Below W.heap.size W W2 → J (some g) [] W2) →
   (∀ m g pre x W1, W.heap.size ≤ g → pre ++ [x] <+: all → J (some g) pre W1 → C g x W1 → YieldAt Fence.wide m P l (encs g x) W1 fun e W' => (e = .returned (.bool true) ∧ J (some g) (pre ++ [x]) W' ∧ Kp g W1 W') ∨ (∃ ch, e = .panicked ch ∧ Jp ch W')) →
   J none [] W →
   CallsIn Fence.wide n P f (#[.func (.yield l) #[] #[]] ++ lb) W fun e W' => (∃ v o, e = .returned v ∧ J o all W') ∨ (∃ ch, e = .panicked ch ∧ Jp ch W')

def bodyEnd {α : Type} (B : Nat) (Kp : World → World → Prop) (I : List α → World → Prop) (Ip : List PanicEntry → World → Prop) (xs : List α) (W : World) : Exit → Act → World → Prop
 | .normal, _, W3 => KeepsFrom B W W3 ∧ Kp W W3 ∧ I xs W3
 | .panic ch, a, W3 => a.defers = [] ∧ KeepsFrom B W W3 ∧ Ip ch W3
 | _, _, _ => False

theorem range_on {α : Type} {P : Program} {b : Frame} {fn : Func} (hf : P.funcs[b.fn]? = some fn) (hro : b.roundOf = none) {g : Operand} {ps : Array Tmp} {assign body : Code} {Q : Exit → Act → World → Prop} {a : Act} {w : World}
   {gf : Nat} {lb : Array Value} (hg : a.eval g = .func (.func gf) #[] lb) (eg : ∀ args w, (callFunc gf args).run P w = .ok (.enter gf args) w)
   {n : Nat} {encs : Nat → α → Array Value} {Ab Kp : Nat → World → World → Prop} {C : Nat → α → World → Prop} {all : List α} (hseq : SeqAll n P gf lb encs Ab Kp C all w)
   (hAb : ∀ (g : Nat) (A B : World) (l : Nat) (o : Obj), l ≠ g → Ab g A B → A.heap[l]? = some o → o.isCells = false → B.heap[l]? = some o)
   (hKt : ∀ (g : Nat) {A B C : World}, Kp g A B → Kp g B C → Kp g A C) (hKb : ∀ (g : Nat) (_ : α) (W : World) (l : Nat) (o o' : Obj), w.heap.size ≤ l → l ≠ g → W.heap[l]? = some o → o.isCells = false → Kp g W (W.putObj l o'))
   (hC : ∀ (g : Nat) (x : α) (W : World) (l : Nat) (o o' : Obj), C g x W → W.heap[l]? = some o → o.isCells = false → C g x (W.putObj l o')) (hps : ∀ g x, (encs g x).size = ps.size)
   (I : Option Nat → List α → World → Prop) (Ip : List PanicEntry → World → Prop) (hI : ∀ o, OwnFrom w.heap.size (I o)) (bI : ∀ g, w.heap.size ≤ g → BearsO (Ab g) (I (some g))) (h0 : I none [] w)
   (hst : ∀ (g : Nat) (W W2 : World), w.heap.size ≤ W.heap.size → I none [] W → W.heap.size ≤ g → g < W2.heap.size → Below W.heap.size W W2 → I (some g) [] W2) (Ax : Nat → Act → World → Prop) (hAx : ∀ g a', OwnFrom w.heap.size (fun (_ : Unit) W => Ax g a' W))
   (hassign : ∀ (m l g : Nat) (pre : List α) (x : α) (W : World) (K : Act → World → Prop), w.heap.size ≤ g → I (some g) pre W → C g x W → (∀ a' W', KeepsFrom w.heap.size W W' → Kp g W W' → I (some g) pre W' → C g x W' → Ax g a' W' → K a' W') →
     assign.wpIn (Fence.wide.inRound l) m P (Exit.then K (fun _ _ _ => False)) { tmps := (ps.zip (encs g x)).foldl (fun t (p, v) => t.setIfInBounds p v) a.tmps, defers := [] } W)
   (hbody : ∀ (m l g : Nat) (pre : List α) (x : α) (a' : Act) (W : World), w.heap.size ≤ l → w.heap.size ≤ g → pre ++ [x] <+: all → I (some g) pre W → C g x W → Ax g a' W → body.wpIn (Fence.wide.inRound l) m P (bodyEnd w.heap.size (Kp g) (I (some g)) Ip (pre ++ [x]) W) a' W)
   (hdone : ∀ (D : Nat) (o : Option Nat) (W : World), w.heap.size ≤ D → I o all W → W.heap[D]? = some (.deferred (some [])) → Q .normal { a with defers := { target := .collected D, args := #[] } :: a.defers } W)
   (hpan : ∀ (D : Nat) (ch : List PanicEntry) (W : World), w.heap.size ≤ D → Ip ch W → W.heap[D]? = some (.deferred (some [])) → Q (.panic ch) { a with defers := { target := .collected D, args := #[] } :: a.defers } W) :
   wpOn P b (.rangeFunc g ps assign body) Q a w := by
 intro k cs
 obtain ⟨D, hD⟩ : ∃ D, w.heap.size = D := ⟨_, rfl⟩
 obtain ⟨rec, hrec⟩ : ∃ rec : LoopState → Option Code → Loop, rec = fun st pe => { state := st, pending := pe, fn := b.fn, tmps := a.tmps, params := ps, assign, body, defers := D } := ⟨_, rfl⟩
 obtain ⟨W1, hW1⟩ : ∃ W1, (w.alloc (.deferred (some []))).alloc (.loop (rec .ready none)) = W1 := ⟨_, rfl⟩
 have hB1 : Below w.heap.size w W1 := by rw [← hW1]; exact ((Below.refl _ w).alloc (Nat.le_refl _) _).alloc (by simp) _
 have hz1 : W1.heap.size = w.heap.size + 2 := by rw [← hW1]; simp
 have hL1 : W1.heap[D + 1]? = some (.loop (rec .ready none)) := by
   rw [← hW1, ← hD]
   have h := World.alloc_heap_new (w.alloc (.deferred (some []))) (.loop (rec .ready none))
   rwa [World.size_alloc] at h
 have hK1 : W1.heap[D]? = some (.deferred (some [])) := by
   rw [← hW1, ← hD]
   exact (Below.heap_alloc _ _ _ (by simp)).trans (World.alloc_heap_new w _)
 have hI1 : I none [] W1 := by rw [← hW1]; exact (hI none).alloc _ ((hI none).alloc _ h0)
 have hent : (Instr.enterLoop b.fn a.tmps ps assign body b.roundOf).run P w = .ok (D + 1, [{ target := .collected D, args := #[] }]) W1 := by
   rw [hro, ← hW1, hrec, ← hD]; exact run_enterLoop_outer _ _ _ _ _
 have hres : (resolve a.eval (rangeCall g (D + 1)) 0).run P W1 = .ok { target := .fn (.func gf) lb, args := #[.func (.yield (D + 1)) #[] #[]] } W1 := by
   simp only [resolve, hg]; simp [go_sem]
 have hinv : (invoke (.fn (.func gf) lb) #[.func (.yield (D + 1)) #[] #[]]).run P W1 = .ok (.enter gf (#[.func (.yield (D + 1)) #[] #[]] ++ lb)) W1 := by
   simp [invoke, go_sem, eg]
 have hgo := stepR_rangeFunc (P := P) (b := b) (a := a) (k := k) (cs := cs) (w := w) hent hres hinv
 have hcall := hseq (D + 1)
   (fun o pre W => I o pre W ∧ W.heap[D + 1]? = some (.loop (rec .ready none)) ∧ W.heap[D]? = some (.deferred (some [])))
   (fun ch W => Ip ch W ∧ W.heap[D]? = some (.deferred (some [])))
   W1 hB1
   (fun g hgW s A B hs hab => ⟨bI g (by omega) s A B hs.1 hab, hAb g A B _ _ (by omega) hab hs.2.1 rfl, hAb g A B _ _ (by omega) hab hs.2.2 rfl⟩)
   (fun g W2 h1 h2 h3 => ⟨hst g W1 W2 (by omega) hI1 h1 h2 h3, (h3.block _ (by omega)).trans hL1, (h3.block _ (by omega)).trans hK1⟩)
   ?round ⟨hI1, hL1, hK1⟩
 case round =>
   rintro m g pre x Wa hgW hpf ⟨hi, hl, hk⟩ hc
   have hgd : w.heap.size ≤ g := by omega
   have hne : D + 1 ≠ g := by omega
   have hy := run_yield (P := P) (args := encs g x) hl (by rw [hrec]; exact hps g x)
   refine ⟨b.fn, _, assign, body, by rw [hrec] at hy; exact hy, round_of_walk hf (hassign m _ g pre x Wa _ hgd hi hc ?_)⟩
   clear hy
   intro a' W hkf hkp hi' hc' hax
   have hl' := hkf.same _ _ (by omega) hl rfl
   have hk' := hkf.same _ _ (by omega) hk rfl
   have hlt : D + 1 < W.heap.size := (gL hl')
   refine ⟨_, run_beginRound hl' (by rw [hrec]), ?_⟩
   obtain ⟨Wb, hWb⟩ : ∃ Wb, W.putObj (D + 1) (.loop { rec .ready none with state := .busy }) = Wb := ⟨_, rfl⟩
   have hlb : Wb.heap[D + 1]? = some (.loop { rec .ready none with state := .busy }) := by rw [← hWb]; exact World.putObj_heap_same hlt
   have hkb : Wb.heap[D]? = some (.deferred (some [])) := by rw [← hWb]; exact (World.putObj_heap_other (by omega)).trans hk'
   have hib : I (some g) pre Wb := by rw [← hWb]; exact (hI _).putObj _ hi' (by omega) hl' rfl
   have hcb : C g x Wb := by rw [← hWb]; exact hC g x W _ _ _ hc' hl' rfl
   have haxb : Ax g a' Wb := by rw [← hWb]; exact (hAx g a').putObj (s := ()) _ hax (by omega) hl' rfl
   have hkpb : Kp g W Wb := by rw [← hWb]; exact hKb g x _ _ _ _ (by omega) hne hl' rfl
   rw [hWb]
   refine wpIn_mono (hbody m (D + 1) g pre x a' Wb (by omega) hgd hpf hib hcb haxb) ?_
   rw [hD]
   intro e a3 W3 hp
   match e, hp with
   | .normal, hp =>
     obtain ⟨h3, hkp3, hi3⟩ := hp
     have hl3 := h3.same _ _ (by omega) hlb rfl
     have hr := run_endRound (P := P) none hl3
     refine ⟨_, _, hr, .inl ⟨rfl, ⟨(hI _).putObj _ hi3 (by omega) hl3 rfl, ?_, ?_⟩, hKt g hkp (hKt g (hKt g hkpb hkp3) (hKb g x _ _ _ _ (by omega) hne hl3 rfl))⟩⟩
     · rw [World.putObj_heap_same (gL hl3), hrec]; rfl
     · exact (World.putObj_heap_other (by omega)).trans (h3.same _ _ (by omega) hkb rfl)
   | .panic ch, hp => exact ⟨hp.1, .inr ⟨ch, rfl, hp.2.2, hp.2.1.same _ _ (by omega) hkb rfl⟩⟩
 obtain ⟨e, w₃, fr, hR, hs, _, hleave⟩ := hcall.2 (b.atR { a with defers := { target := .collected D, args := #[] } :: a.defers } (.inRangeFunc (D + 1) :: k) :: cs) (room_wide _)
 rcases hR with ⟨v, o, rfl, hi, hl, hk⟩ | ⟨ch, rfl, hi, hk⟩
 · have hend := run_endLoop (P := P) hl (by rw [hrec]; simp)
   have hend' : (Instr.endLoop (D + 1)).run P w₃ = .ok none (w₃.putObj (D + 1) (.loop { rec .ready none with state := .exhausted })) := by rw [hrec] at hend ⊢; exact hend
   refine ⟨.normal, _, w₃.putObj (D + 1) (.loop { rec .ready none with state := .exhausted }), hdone D o _ (by omega) ((hI o).putObj _ hi (by omega) hl rfl) ((World.putObj_heap_other (by omega)).trans hk), ?_⟩
   refine StepsIn.trans (to_wide hgo) (StepsIn.trans hs (StepsIn.trans (to_wide (step_leave_returned hleave)) ?_))
   rw [finish_atR_inRangeFunc]
   exact to_wide (stepR_endRangeFunc hend')
 · refine ⟨.panic ch, _, _, hpan D ch _ (by omega) hi hk, .inRangeFunc (D + 1) :: k, StepsIn.trans (to_wide hgo) (StepsIn.trans hs ?_)⟩
   rw [← Frame.raise_atR]
   exact to_wide (step_leave_panicked hleave)
end Go.Proofs.YtlmdhlckgbgfhaaGreatDoor
namespace Go.Proofs.YtlmdhlckgbgfhaaGreatDoor
open Go.RowKit Go.Shelf
attribute [local go_sem] Oper.semAt_some

structure TE where
 c0 : Value
 c1 : Value
 c2 : Value
 c3 : Value
 t : Tm
abbrev TEIn (ok : Nat → Prop) (w0 : World) : Type := { x : TE // IsTmIn ok w0 x.c0 x.c1 x.c2 x.c3 x.t }
def cellsE {ok : Nat → Prop} {w0 : World} (x : TEIn ok w0) : List Value := [x.1.c0, x.1.c1, x.1.c2, x.1.c3]
def flatE {ok : Nat → Prop} {w0 : World} (l : List (TEIn ok w0)) : List Value := l.flatMap cellsE
theorem flatE_len {ok : Nat → Prop} {w0 : World} : ∀ l : List (TEIn ok w0), (flatE l).length = l.length * 4
 | [] => rfl
 | x :: l => by
   show (cellsE x ++ flatE l).length = _
   rw [List.length_append, flatE_len l]
   simp [cellsE]; omega
theorem flatE_append {ok : Nat → Prop} {w0 : World} (l m : List (TEIn ok w0)) : flatE (l ++ m) = flatE l ++ flatE m := by simp [flatE]
theorem flatE_hold {ok : Nat → Prop} {w0 : World} : ∀ l : List (TEIn ok w0), HoldL ok w0 (flatE l) (l.map fun x => x.1.t)
 | [] => rfl
 | x :: l => ⟨_, _, _, _, flatE l, rfl, x.2, flatE_hold l⟩

def RowsE {ok : Nat → Prop} {w0 : World} (W : World) (bL : Nat) (ls : List (List (TEIn ok w0))) : Prop :=
 ok bL ∧ ∀ i (h : i < ls.length), ∃ (a : Option Addr) (cap : Nat), W.cell? ⟨bL, i, none⟩ = some (.slice a ls[i].length cap) ∧ ls[i].length ≤ maxLen ∧
   (ls[i] ≠ [] → ∃ b off, a = some ⟨b, off, none⟩ ∧ ok b ∧ ∀ j (hj : j < ls[i].length), W.cell? ⟨b, off + j * 4, none⟩ = some ls[i][j].1.c0 ∧ W.cell? ⟨b, off + j * 4 + 1, none⟩ = some ls[i][j].1.c1 ∧ W.cell? ⟨b, off + j * 4 + 2, none⟩ = some ls[i][j].1.c2 ∧ W.cell? ⟨b, off + j * 4 + 3, none⟩ = some ls[i][j].1.c3)
def KeepOk (ok : Nat → Prop) (W W' : World) : Prop := ∀ b, ok b → W'.heap[b]? = W.heap[b]?
theorem KeepOk.refl (ok : Nat → Prop) (W : World) : KeepOk ok W W := fun _ _ => rfl
theorem KeepOk.trans {ok : Nat → Prop} {A B C : World} (h : KeepOk ok A B) (k : KeepOk ok B C) : KeepOk ok A C := fun b hb => (k b hb).trans (h b hb)
theorem KeepOk.grown {ok : Nat → Prop} {A W W' : World} {g : Nat} (h : KeepOk ok A W) (hg : W.grownBy W' (some g)) (hn : ¬ ok g) (hlt : ∀ b, ok b → b < W.heap.size) : KeepOk ok A W' :=
 fun b hb => (hg.block b (hlt b hb) (fun e => by cases e; exact hn hb)).trans (h b hb)
theorem RowsE.keep {ok : Nat → Prop} {w0 W W' : World} {bL : Nat} {ls : List (List (TEIn ok w0))} (h : RowsE W bL ls) (hk : KeepOk ok W W') : RowsE W' bL ls := by
 refine ⟨h.1, fun i hi => ?_⟩
 obtain ⟨a, cap, h1, h2, h3⟩ := h.2 i hi
 refine ⟨a, cap, (cell_block (hk _ h.1)).trans h1, h2, fun hne => ?_⟩
 obtain ⟨b, off, ha, hb, hj⟩ := h3 hne
 have e := fun o => cell_block (o := o) (hk b hb)
 exact ⟨b, off, ha, hb, fun j hj' => ⟨(e _).trans (hj j hj').1, (e _).trans (hj j hj').2.1, (e _).trans (hj j hj').2.2.1, (e _).trans (hj j hj').2.2.2⟩⟩

def ChoE {ok : Nat → Prop} {w0 : World} (g d N : Nat) (W : World) (xs : List (TEIn ok w0)) : Prop := W.ownsRow 0 24 4 (.slice (some ⟨g, 0, none⟩) d N) d (flatE xs)
theorem ChoE.lt {ok : Nat → Prop} {w0 : World} {g d N : Nat} {W : World} {xs : List (TEIn ok w0)} (h : ChoE g d N W xs) : g < W.heap.size := (World.ownsRow.lt h g rfl).2
theorem ChoE.init {ok : Nat → Prop} {w0 : World} {g d N : Nat} {W : World} {xs : List (TEIn ok w0)} {x : TEIn ok w0} (hl : xs.length = d) (h : ChoE g (d + 1) N W (xs ++ [x])) : ChoE g d N W xs := by
 obtain ⟨h1, ⟨h2, _⟩ | ⟨g', cap, cur, h2, h3, h4, h5, h6, h7, h8⟩⟩ := h
 · cases h2
 · simp only [Value.slice.injEq, Option.some.injEq, Addr.mk.injEq, and_true, true_and] at h2
   obtain ⟨rfl, rfl⟩ := h2
   have hlen := flatE_len xs
   refine ⟨by rw [hlen, hl], .inr ⟨g, N, cur, rfl, h3, h4, by omega, h6, h7, ?_⟩⟩
   have := congrArg (List.take (d * 4)) h8
   rw [List.take_take, flatE_append, List.take_append_of_le_length (by rw [hlen, hl]; exact Nat.le_refl _), List.take_of_length_le (l := flatE xs) (by rw [hlen, hl]; exact Nat.le_refl _)] at this
   rw [← this]; congr 1; omega
theorem ChoE.block {ok : Nat → Prop} {w0 : World} {g d N : Nat} {W W' : World} {xs : List (TEIn ok w0)} (h : ChoE g d N W xs) (hb : W'.heap[g]? = W.heap[g]?) : ChoE g d N W' xs := by
 obtain ⟨h1, ⟨h2, _⟩ | ⟨g', cap, cur, h2, h3, h4, h5⟩⟩ := h
 · cases h2
 · simp only [Value.slice.injEq, Option.some.injEq, Addr.mk.injEq, and_true, true_and] at h2
   obtain ⟨rfl, rfl⟩ := h2
   exact ⟨h1, .inr ⟨g, N, cur, rfl, h3, hb.trans h4, h5⟩⟩

theorem combos_step {α : Type} (xs : List α) (L : List α) (r : List (List α)) (j : Nat) (hj : j < L.length) :
   (combos (L.take (j + 1) :: r)).map (xs ++ ·) = (combos (L.take j :: r)).map (xs ++ ·) ++ (combos r).map ((xs ++ [L[j]]) ++ ·) := by
 simp only [combos]
 rw [List.take_succ_eq_append_getElem hj, List.flatMap_append, List.map_append]
 congr 1
 simp [List.map_map, Function.comp_def]

theorem combos_prefix {α : Type} (done : List (List α)) (xs : List α) (L : List α) (r : List (List α)) (j : Nat) (hj : j < L.length) :
   (done ++ (combos (L.take j :: r)).map (xs ++ ·)) ++ (combos r).map ((xs ++ [L[j]]) ++ ·) <+: done ++ (combos (L :: r)).map (xs ++ ·) := by
 rw [List.append_assoc, ← combos_step xs L r j hj, List.prefix_append_right_inj]
 refine List.IsPrefix.map _ ?_
 refine ⟨(L.drop (j + 1)).flatMap fun x => (combos r).map (x :: ·), ?_⟩
 simp only [combos]
 rw [← List.flatMap_append, List.take_append_drop]
abbrev AbE (g : Nat) (A B : World) : Prop := A.grownBy B (some g)
def KpE (ok : Nat → Prop) (g : Nat) (A B : World) : Prop := KeepOk ok A B ∧ A.heap.size ≤ B.heap.size ∧ B.heap[g]? = A.heap[g]?
theorem wide_dep (k : Nat) : Fence.wide.depth.isSome = true → 1 ≤ k := fun h => by cases h

theorem chooseT_in (l : Nat) {ok : Nat → Prop} {w0 W0 : World} (ls : List (List (TEIn ok w0))) (_ : ls.length ≤ 1000) (bL capL g : Nat) (hg : ¬ ok g) (hlt : ∀ b, ok b → b < W0.heap.size)
   (all : List (List (TEIn ok w0))) (J : List (List (TEIn ok w0)) → World → Prop) (Jp : List PanicEntry → World → Prop) (hJ : BearsO (AbE g) J) (hL : RowsE W0 bL ls)
   (hY : ∀ m pre x W1, pre ++ [x] <+: all → J pre W1 → ChoE g ls.length ls.length W1 x → YieldAt Fence.wide m Tryz.prog l #[.slice (some ⟨g, 0, none⟩) ls.length ls.length] W1 fun e W' => (e = .returned (.bool true) ∧ J (pre ++ [x]) W' ∧ KpE ok g W1 W') ∨ (∃ ch, e = .panicked ch ∧ Jp ch W')) :
   ∀ (r : List (List (TEIn ok w0))) (d n : Nat) (xs : List (TEIn ok w0)) (done : List (List (TEIn ok w0))) (W : World), d + r.length = ls.length → ls.drop d = r → xs.length = d → done ++ (combos r).map (xs ++ ·) <+: all → J done W → KeepOk ok W0 W → W0.heap.size ≤ W.heap.size → ChoE g d ls.length W xs →
     CallsIn Fence.wide n Tryz.prog 120 #[.slice (some ⟨bL, 0, none⟩) ls.length capL, .slice (some ⟨g, 0, none⟩) d ls.length, .func (.yield l) #[] #[]] W fun e W' =>
       (e = .returned (.bool true) ∧ J (done ++ (combos r).map (xs ++ ·)) W' ∧ KeepOk ok W0 W' ∧ W.heap.size ≤ W'.heap.size ∧ ChoE g d ls.length W' xs) ∨ (∃ ch, e = .panicked ch ∧ Jp ch W') := by
 intro r
 induction r with
 | nil =>
   intro d n xs done W hd hdrop hxs hall hJ0 hk hz hc
   obtain rfl : d = ls.length := by simpa using hd
   obtain ⟨fn, tmps, assign, body, hy, hR⟩ := hY (n - 1) done xs W (by simpa [combos] using hall) hJ0 hc
   have HR := Hi hR
   have HK := Hi hk
   have HC := Hi hc
   clear hR hk hc hY hd hdrop hJ0 hall
   refine callsIn_of_wp Tryz.func120 rfl trivial ?_ rfl
   simp only [Tryz.ntmps120, List.size_toArray, List.length_cons, List.length_nil, Nat.reduceAdd, Nat.reduceSub, Array.replicate_succ, Array.replicate_zero, List.push_toArray, List.append_toArray, List.nil_append, List.cons_append]
   gi_wp2_with (first | ((try refine ⟨wide_dep _, ?_⟩); refine HR.out.mono ?_; clear HR; rintro e W2 (⟨rfl, hJ2, hk2⟩ | ⟨ch, rfl, hp⟩)))
   · go_ret
     exact .inl ⟨rfl, by simpa [combos] using hJ2, HK.out.trans hk2.1, hk2.2.1, HC.out.block hk2.2.2⟩
   · exact ⟨rfl, .inr ⟨ch, rfl, hp⟩⟩
 | cons L r ih =>
   intro d n xs done W hd hdrop hxs hall hJ0 hk hz hc
   have HALL := Hi hall
   clear hall
   have hdl : d < ls.length := by simp at hd; omega
   rw [List.drop_eq_getElem_cons hdl] at hdrop
   obtain ⟨hLd, hr⟩ := List.cons.inj hdrop
   obtain ⟨a, cap, q0, hLl, hcells⟩ := (hL.keep hk).2 d hdl
   rw [hLd] at q0 hLl hcells
   unfold maxLen at hLl
   have HCE := Hi hcells
   have HIH := Hi ih
   have HK := Hi hk
   have HC := Hi hc
   have HR := Hi hr
   have HJ := Hi hJ0
   have HXS := Hi hxs
   have i1 : (0 : Int) ≤ (d : Int) := by omega
   have i2 : (d : Int) < (ls.length : Int) := by omega
   have hne : ((d : Int) == (ls.length : Int)) = false := by rw [beq_eq_false_iff_ne]; omega
   obtain ⟨i0, hi, hz0, hz1, hz2⟩ := info_parts (show (Tryz.prog.info? 24).map (fun i => (i.zero, i.size, i.bytes)) = some (some (.agg #[.int .u8 0, .int .i64 0, .string ⟨#[]⟩, .slice none 0 0]), 4, 56) by kernel_rfl)
   have hdr : d + 1 + r.length = ls.length := by simp at hd; omega
   clear hcells ih hk hc hr hJ0 hdrop hLd hd hY hxs
   refine callsIn_of_wp Tryz.func120 rfl trivial ?_ rfl
   simp only [Tryz.ntmps120, List.size_toArray, List.length_cons, List.length_nil, Nat.reduceAdd, Nat.reduceSub, Array.replicate_succ, Array.replicate_zero, List.push_toArray, List.append_toArray, List.nil_append, List.cons_append]
   gi_wp2
   gi_loopw [23] (fun i wr => ∃ j : Nat, j ≤ L.length ∧ i = .int .i64 j ∧ J (done ++ (combos (L.take j :: r)).map (xs ++ ·)) wr ∧ KeepOk ok W0 wr ∧ W.heap.size ≤ wr.heap.size ∧ ChoE g d ls.length wr xs) (fun i _ => L.length - (intOf i).toNat)
   case atStart => exact ⟨0, Nat.zero_le _, rfl, by simpa [combos] using HJ.out, HK.out, Nat.le_refl _, HC.out⟩
   case round =>
     obtain ⟨j, hj, rfl, hJr, hkr, hzr, hcr⟩ := hrel
     by_cases hlt' : j < L.length
     · obtain ⟨b, off, rfl, hb, hcs⟩ := HCE.out (by intro e; rw [e] at hlt'; simp at hlt')
       have hkw : KeepOk ok W wr := fun b hb => (hkr b hb).trans (HK.out b hb).symm
       obtain ⟨e0, e1, e2, e3⟩ := hcs j hlt'
       have e := fun o => cell_block (o := o) (hkw b hb)
       have g0 := (e _).trans e0
       have g1 := (e _).trans e1
       have g2 := (e _).trans e2
       have g3 := (e _).trans e3
       have hstep := combos_step xs L r j hlt'
       have hpf := (combos_prefix done xs L r j hlt').trans HALL.out
       obtain ⟨⟨⟨d0, d1, d2, d3, ⟨k', n', s', as'⟩⟩, hx⟩, hq⟩ : ∃ x, L[j] = x := ⟨_, rfl⟩
       rw [hq] at g0 g1 g2 g3 hstep hpf
       have HPF := Hi hpf
       clear hpf
       have hx0 := hx
       simp only [IsTmIn] at hx
       obtain ⟨rfl, _, rfl, _, rfl, _, a', cap', rfl, _, _⟩ := hx
       simp only at g0 g1 g2 g3
       have HX := Hi hx0
       have HST := Hi hstep
       have HJR := Hi hJr
       have HKR := Hi hkr
       have HCR := Hi hcr
       have hA : Below wr.heap.size wr ((wr.alloc (.cells #[.int .u8 k', .int .i64 n', .string s', .slice a' as'.length cap'] 24)).alloc (.cells #[.int .u8 k', .int .i64 n', .string s', .slice a' as'.length cap'] 24)) := ((Below.refl _ wr).alloc (Nat.le_refl _) _).alloc (by simp) _
       have HOW := Hi (own_grown hcr hA)
       have HA := Hi hA
       clear e0 e1 e2 e3 e hq hcs hstep hJr hkr hcr hkw hA
       have j1 : (0 : Int) ≤ (j : Int) := by omega
       have j2 : (j : Int) < (L.length : Int) := by omega
       gi_wp2_with (gi_at_builtin; refine wpListIn_append_fits _ rfl _ _ 22 rfl 0 24 i0 4 Tryz.underlying22 hi hz1 g d ls.length _ rfl HOW.out ⟨wr.heap.size + 1, 0, none⟩ 1 1 [.int .u8 k', .int .i64 n', .string s', .slice a' as'.length cap'] rfl rfl ?c1 ?c2 (by omega) ?_)
       case c2 => simp [Value.oneCell']
       intro w' hown hgr
       have hgw : wr.grownBy w' (some g) := ⟨hgr.os.trans HA.out.os, hgr.tape.trans HA.out.tape, hgr.output.trans HA.out.output, Nat.le_trans HA.out.size hgr.size, fun k hk hne => (hgr.block k (Nat.lt_of_lt_of_le hk HA.out.size) hne).trans (HA.out.block k hk)⟩
       have hlw : ∀ b, ok b → b < wr.heap.size := fun b hb => by have := hlt b hb; omega
       have hzw := hgw.size
       have HC2 := Hi (HIH.out (d + 1) (n - 1) (xs ++ [⟨⟨_, _, _, _, .mk k' n' s' as'⟩, HX.out⟩]) _ w' hdr HR.out (by simp [HXS.out]) HPF.out (hJ _ _ _ HJR.out hgw) (HKR.out.grown hgw hg hlw) (by omega) (by unfold ChoE; rw [flatE_append]; exact hown))
       clear hown hgr hgw hlw
       gi_wp2_with (first | (refine ⟨trivial, wide_dep _, ?_⟩; gi_at_call 120; refine HC2.out.mono ?_; clear HC2; rintro e W3 (⟨rfl, hJ3, hk3, hz3, hc3⟩ | ⟨ch, rfl, hp⟩)))
       · go_roundw
         case rel => exact ⟨j + 1, by omega, by go_num, by rw [HST.out, ← List.append_assoc]; exact hJ3, hk3, by omega, hc3.init HXS.out⟩
         case measure => simp [intOf]; omega
       · exact ⟨rfl, .inr ⟨ch, rfl, hp⟩⟩
     · rw [List.take_of_length_le (by omega)] at hJr
       have HJR := Hi hJr
       have HKR := Hi hkr
       have HCR := Hi hcr
       clear hJr hkr hcr
       gi_wp2
       go_ret
       exact .inl ⟨rfl, HJR.out, HKR.out, hzr, HCR.out⟩
theorem emptyT_any (a : Option Addr) (n cap : Nat) (hn : n ≤ maxLen) (w : World) : Calls Tryz.prog 119 #[.slice a n cap] w fun e w' => e = .returned (.bool (decide (n = 0))) ∧ w = w' := by
 unfold maxLen at hn
 by_cases h : n = 0
 · subst h
   go_enter Tryz.func119, Tryz.ntmps119
   go_wp2
   go_ret
   exact ⟨rfl, rfl⟩
 · have h0 : ((n : Int) == 0) = false := by simpa using h
   have H := Hi h
   clear h
   go_enter Tryz.func119, Tryz.ntmps119
   go_wp2
   go_ret
   exact ⟨by rw [decide_eq_false H.out]; rfl, rfl⟩

def FirstEmpty {α : Type} (ls : List (List α)) (e : Ending) : Prop := ∃ i : Int, e = .returned (.int .i64 i) ∧ decide (0 ≤ i) = ls.any List.isEmpty

theorem indexEmptyT {ok : Nat → Prop} {w0 : World} (ls : List (List (TEIn ok w0))) (hN : ls.length ≤ 1000) (bL capL : Nat) (w : World) (hL : RowsE w bL ls) :
   Calls Tryz.prog 158 #[.slice (some ⟨bL, 0, none⟩) ls.length capL, .func (.func 119) #[] #[]] w fun e w' => FirstEmpty ls e ∧ w = w' := by
 have HL := Hi hL; clear hL
 go_enter Tryz.func158, Tryz.ntmps158
 go_wp2
 go_loop [8] (fun i => ∃ j : Nat, j ≤ ls.length ∧ i = .int .i64 j ∧ (ls.take j).any List.isEmpty = false) (fun i => ls.length - (intOf i).toNat)
 case atStart => exact ⟨0, by omega, by go_num, rfl⟩
 case round =>
   obtain ⟨j, hj, rfl, hf⟩ := hrel
   have HF := Hi hf; clear hf
   by_cases hlt : j < ls.length
   · obtain ⟨a, cap, g0, hl, _⟩ := HL.out.2 j hlt
     have HN := Hi (List.take_succ_eq_append_getElem hlt)
     have HC := Hi (emptyT_any a ls[j].length cap hl w)
     have i1 : (0 : Int) ≤ (j : Int) := by omega
     have i2 : (j : Int) < (ls.length : Int) := by omega
     by_cases ho : ls[j].length = 0
     · have HO := Hi (show ls.any List.isEmpty = true by rw [List.any_eq_true]; exact ⟨ls[j], List.getElem_mem hlt, by simpa using ho⟩)
       rw [decide_eq_true ho] at HC
       clear ho hl
       go_wp2_with (go_at_call 119; refine HC.out.mono ?_; rintro e w' ⟨rfl, rfl⟩)
       go_ret
       exact ⟨⟨_, rfl, by rw [HO.out]; simp⟩, rfl⟩
     · have HO := Hi (show (ls.take (j + 1)).any List.isEmpty = false by rw [HN.out, List.any_append, HF.out]; simpa using ho)
       rw [decide_eq_false ho] at HC
       clear ho hl
       go_wp2_with (go_at_call 119; refine HC.out.mono ?_; rintro e w' ⟨rfl, rfl⟩)
       go_round
       case rel => exact ⟨j + 1, by omega, by go_num, HO.out⟩
       case measure => simp [intOf]; omega
   · rw [List.take_of_length_le (by omega)] at HF
     go_wp2
     go_ret
     exact ⟨⟨_, rfl, by rw [HF.out]; rfl⟩, rfl⟩

theorem containsEmptyT {ok : Nat → Prop} {w0 : World} (ls : List (List (TEIn ok w0))) (hN : ls.length ≤ 1000) (bL capL : Nat) (w : World) (hL : RowsE w bL ls) :
   Calls Tryz.prog 118 #[.slice (some ⟨bL, 0, none⟩) ls.length capL, .func (.func 119) #[] #[]] w fun e w' => e = .returned (.bool (ls.any List.isEmpty)) ∧ w = w' := by
 have HC := Hi (indexEmptyT ls hN bL capL w hL); clear hL
 go_enter Tryz.func118, Tryz.ntmps118
 go_wp2_with (go_at_call 158; refine HC.out.mono ?_; clear HC; rintro e w' ⟨⟨i, rfl, hi⟩, rfl⟩)
 have HI := Hi hi; clear hi
 go_ret
 exact ⟨by rw [← HI.out]; rfl, rfl⟩

theorem combos_of_empty {α : Type} {ls : List (List α)} (h : ls.any List.isEmpty = true) : combos ls = [] := by
 rw [List.any_eq_true] at h
 obtain ⟨l, hl, he⟩ := h
 rw [List.isEmpty_iff] at he
 subst he
 exact combos_nil_of_mem hl

theorem makeT (N : Nat) (hN : N ≤ 1000) : ∃ CS : Array Value, CS.size = N * 4 ∧ ∀ w : World, (Instr.makeSlice 22 (.int .i64 0) (.int .i64 (N : Int))).run Tryz.prog w = .ok (.slice (some ⟨w.heap.size, 0, none⟩) 0 N) (w.alloc (.cells CS 24)) := by
 obtain ⟨i0, hi, hz0, hz1, hz2⟩ := info_parts (show (Tryz.prog.info? 24).map (fun i => (i.zero, i.size, i.bytes)) = some (some (.agg #[.int .u8 0, .int .i64 0, .string ⟨#[]⟩, .slice none 0 0]), 4, 56) by kernel_rfl)
 refine ⟨madeCells (Value.agg #[.int .u8 0, .int .i64 0, .string ⟨#[]⟩, .slice none 0 0]).cells (N * 4), size_madeCells _ _, fun w => ?_⟩
 have := run_make (P := Tryz.prog) w _ _ i0 _ Tryz.underlying22 hi hz0 .i64 .i64 0 N (Int.le_refl _) (by omega) (by rw [hz2]; omega) (by omega)
 simpa [hz1] using this

def FC (l bL capL N H : Nat) (CS : Array Value) : Facts := fun i v w => match i with
 | 0 | 1 => v = .slice (some ⟨bL, 0, none⟩) N capL
 | 2 => v = .int .i64 N
 | 3 => ∃ g, H ≤ g ∧ v = .slice (some ⟨g, 0, none⟩) 0 N ∧ w.heap[g]? = some (.cells CS 24 (0, 0))
 | 4 => v = .func (.yield l) #[] #[]
 | _ => True
theorem FC_grow (l bL capL N H : Nat) (CS : Array Value) (i : Nat) (v : Value) (w w' : World) (h : FC l bL capL N H CS i v w) (hb : Below w.heap.size w w') : FC l bL capL N H CS i v w' := by
 match i with
 | 0 | 1 | 2 | 4 => exact h
 | 3 =>
   obtain ⟨g, h1, h2, h3⟩ := h
   exact ⟨g, h1, h2, (hb.block g (gL h3)).trans h3⟩
 | i + 5 => trivial

theorem combosT_seq {ok : Nat → Prop} {w0 : World} (ls : List (List (TEIn ok w0))) (hN : ls.length ≤ 1000) (bL capL Bx n : Nat) (w : World) (hlt : ∀ b, ok b → b < w.heap.size) (hL : RowsE w bL ls)
   (hB : w.heap[Bx]? = some (.cells #[.slice (some ⟨bL, 0, none⟩) ls.length capL] 118 (0, 0))) :
   SeqAll n Tryz.prog 117 #[.pointer (some ⟨Bx, 0, none⟩)] (fun g (_ : List (TEIn ok w0)) => #[.slice (some ⟨g, 0, none⟩) ls.length ls.length]) AbE (KpE ok)
     (fun g x W => ChoE g ls.length ls.length W x) (combos ls) w := by
 intro l J Jp W hW hJ hst hY h0
 refine callsIn_wide.2 ?_
 have hlB : Bx < w.heap.size := (gL hB)
 have g0 : W.cell? ⟨Bx, 0, none⟩ = some (.slice (some ⟨bL, 0, none⟩) ls.length capL) := cells_at ((hW.block Bx hlB).trans hB) 0 _ rfl
 have hk0 : KeepOk ok w W := fun b hb => hW.block b (hlt b hb)
 have hBW : Bx < W.heap.size := Nat.lt_of_lt_of_le hlB hW.size
 have hlW : ∀ b, ok b → b < W.heap.size := fun b hb => Nat.lt_of_lt_of_le (hlt b hb) hW.size
 have HE := Hi (containsEmptyT ls hN bL capL W (hL.keep hk0))
 have HL := Hi (hL.keep hk0)
 have HJ := Hi h0
 have HLT := Hi hlW
 have HST := Hi hst
 have HY := Hi hY
 clear hL hk0 h0 hB hlt hW hst hY hlW
 cases he : ls.any List.isEmpty
 · rw [he] at HE
   clear he
   go_enter Tryz.func117, Tryz.ntmps117
   go_wp2_with (go_at_call 118; refine HE.out.mono ?_; clear HE; rintro e w' ⟨rfl, rfl⟩)
   obtain ⟨CS, hCS, hmk⟩ := makeT ls.length (by omega)
   have HCS := Hi hCS
   clear hCS
   have n1 : (0 : Int) ≤ (ls.length : Int) := by omega
   refine wp_region_grow_tail (by kernel_rfl) 5 (FC l bL capL ls.length W.heap.size CS) (FC_grow _ _ _ _ _ _) (by kernel_rfl) (by kernel_rfl) (steps_to ⟨?_, ?_, ?_, ?_, ?_, trivial⟩) ?_
   · intro a wx hb hd hs ho hp
     refine ⟨rfl, ?_⟩
     have h1 : a.tmps.getD 1 undef = _ := (ho 1 (by kernel_rfl)).trans rfl
     have x0 := (hb.cell (p := ⟨Bx, 0, none⟩) hBW).trans g0
     unfold Oper.wp
     go_simp
     exact Stepped.at rfl hd bR rfl
   · intro a wx hb hd hs ho hp
     refine ⟨rfl, ?_⟩
     have h1 : a.tmps.getD 1 undef = _ := (ho 1 (by kernel_rfl)).trans rfl
     have x0 := (hb.cell (p := ⟨Bx, 0, none⟩) hBW).trans g0
     unfold Oper.wp
     go_simp
     exact Stepped.at rfl hd bR rfl
   · intro a wx hb hd hs ho hp
     refine ⟨rfl, ?_⟩
     have h6 : a.tmps.getD 6 undef = .slice (some ⟨bL, 0, none⟩) ls.length capL := facts_at hp 1 6 (by kernel_rfl)
     unfold Oper.wp
     go_simp
     exact Stepped.at rfl hd bR rfl
   · intro a wx hb hd hs ho hp
     refine ⟨rfl, ?_⟩
     have h7 : a.tmps.getD 7 undef = .int .i64 ls.length := facts_at hp 2 7 (by kernel_rfl)
     unfold Oper.wp
     go_simp
     exact Stepped.at rfl hd (bR.alloc (Nat.le_refl _) _) ⟨wx.heap.size, hb.size, rfl, World.alloc_heap_new _ _⟩
   · intro a wx hb hd hs ho hp
     refine ⟨rfl, ?_⟩
     have h0 : a.tmps.getD 0 undef = _ := (ho 0 (by kernel_rfl)).trans rfl
     unfold Oper.wp
     go_simp
     exact Stepped.at rfl hd bR rfl
   intro a wx hb hd hs ho hf
   have k5 : a.tmps.getD 5 undef = .slice (some ⟨bL, 0, none⟩) ls.length capL := facts_to hf 0 5 (by decide) (by kernel_rfl)
   have k9 : a.tmps.getD 9 undef = .func (.yield l) #[] #[] := facts_to hf 4 9 (by decide) (by kernel_rfl)
   obtain ⟨g, hg1, k8, hg2⟩ : FC l bL capL ls.length W.heap.size CS 3 (a.tmps.getD 8 undef) wx := facts_to hf 3 8 (by decide) (by kernel_rfl)
   have hgl : g < wx.heap.size := (gL hg2)
   have hkk : KeepOk ok W wx := fun b hb' => hb.block b (HLT.out b hb')
   have hcho : ChoE (ok := ok) (w0 := w0) g 0 ls.length wx [] := ⟨rfl, .inr ⟨g, ls.length, CS, rfl, Nat.zero_le _, hg2, Nat.zero_le _, by unfold maxLen; omega, HCS.out, rfl⟩⟩
   have HCH := Hi (callsIn_wide.1 (chooseT_in l ls hN bL capL g (fun h => by have := HLT.out _ h; omega) (fun b hb' => Nat.lt_of_lt_of_le (HLT.out b hb') hb.size) (combos ls) (J (some g)) Jp (hJ g hg1) (HL.out.keep hkk) (fun m pre x W1 h0 h1 h2 => HY.out m g pre x W1 hg1 h0 h1 h2) ls 0 0 [] [] wx (by simp) rfl rfl (by simp) (HST.out g wx hg1 hgl hb) (KeepOk.refl _ _) (Nat.le_refl _) hcho))
   clear hkk hcho hg2 hb HL HST HY
   have hE := slots_all a.tmps 11 (hs.trans rfl)
   simp only [List.range, List.range.loop, List.map, k5, k8, k9, ho 0 (by kernel_rfl), ho 1 (by kernel_rfl)] at hE
   obtain ⟨T, D⟩ := a
   simp only at hE hd
   subst hd
   rw [hE]
   clear k5 k8 k9 hf hs ho hE
   go_wp2_with (go_at_call 120; refine HCH.out.mono ?_; clear HCH; rintro e W3 (⟨rfl, hJ3, _⟩ | ⟨ch, rfl, hp⟩))
   · go_end0
     exact .inl ⟨_, some g, rfl, by simpa using hJ3⟩
   · exact ⟨rfl, .inr ⟨ch, rfl, hp⟩⟩
 · have HE2 := Hi (combos_of_empty he)
   rw [he] at HE
   clear he
   go_enter Tryz.func117, Tryz.ntmps117
   go_wp2_with (go_at_call 118; refine HE.out.mono ?_; clear HE; rintro e w' ⟨rfl, rfl⟩)
   exact bodyPost_ret (v := .tuple #[]) (by simp [results, Tryz.f117, go_sem]) rfl (.inl ⟨_, none, rfl, by rw [HE2.out]; exact HJ.out⟩)

theorem combosT_any (a : Option Addr) (k c : Nat) (w : World) : Calls Tryz.prog 81 #[.slice a k c] w fun e w' => e = .returned (.func (.func 117) #[] #[.pointer (some ⟨w.heap.size, 0, none⟩)]) ∧ w' = w.alloc (.cells #[.slice a k c] 118) := by
 go_enter Tryz.func81, Tryz.ntmps81
 go_wp2
 go_ret
 exact ⟨rfl, rfl⟩
end Go.Proofs.YtlmdhlckgbgfhaaGreatDoor
namespace Go.Proofs.YtlmdhlckgbgfhaaGreatDoor
open Go.RowKit Go.Shelf
attribute [local go_sem] Oper.semAt_some

def RowsI (ok : Nat → Prop) (W : World) (bL : Nat) (ls : List (List Int)) : Prop :=
 ok bL ∧ ∀ i (h : i < ls.length), ∃ (a : Option Addr) (cap : Nat), W.cell? ⟨bL, i, none⟩ = some (.slice a ls[i].length cap) ∧ ls[i].length ≤ maxLen ∧
   (ls[i] ≠ [] → ∃ b off, a = some ⟨b, off, none⟩ ∧ ok b ∧ ∀ j (hj : j < ls[i].length), W.cell? ⟨b, off + j, none⟩ = some (.int .i64 ls[i][j]))
theorem RowsI.keep {ok : Nat → Prop} {W W' : World} {bL : Nat} {ls : List (List Int)} (h : RowsI ok W bL ls) (hk : KeepOk ok W W') : RowsI ok W' bL ls := by
 refine ⟨h.1, fun i hi => ?_⟩
 obtain ⟨a, cap, h1, h2, h3⟩ := h.2 i hi
 refine ⟨a, cap, (cell_block (hk _ h.1)).trans h1, h2, fun hne => ?_⟩
 obtain ⟨b, off, ha, hb, hj⟩ := h3 hne
 exact ⟨b, off, ha, hb, fun j hj' => (cell_block (hk b hb)).trans (hj j hj')⟩

def ChoI (g d N : Nat) (W : World) (xs : List Int) : Prop := W.ownsRow 0 3 1 (.slice (some ⟨g, 0, none⟩) d N) d (xs.map (Value.int .i64))
theorem ChoI.lt {g d N : Nat} {W : World} {xs : List Int} (h : ChoI g d N W xs) : g < W.heap.size := (World.ownsRow.lt h g rfl).2
theorem ChoI.init {g d N : Nat} {W : World} {xs : List Int} {x : Int} (hl : xs.length = d) (h : ChoI g (d + 1) N W (xs ++ [x])) : ChoI g d N W xs := by
 obtain ⟨h1, ⟨h2, _⟩ | ⟨g', cap, cur, h2, h3, h4, h5, h6, h7, h8⟩⟩ := h
 · cases h2
 · simp only [Value.slice.injEq, Option.some.injEq, Addr.mk.injEq, and_true, true_and] at h2
   obtain ⟨rfl, rfl⟩ := h2
   refine ⟨by simp [hl], .inr ⟨g, N, cur, rfl, h3, h4, by omega, h6, h7, ?_⟩⟩
   have := congrArg (List.take (d * 1)) h8
   rw [List.take_take, List.map_append, List.take_append_of_le_length (by simp [hl]), List.take_of_length_le (l := xs.map (Value.int .i64)) (by simp [hl])] at this
   rw [← this]; congr 1; omega
theorem ChoI.block {g d N : Nat} {W W' : World} {xs : List Int} (h : ChoI g d N W xs) (hb : W'.heap[g]? = W.heap[g]?) : ChoI g d N W' xs := by
 obtain ⟨h1, ⟨h2, _⟩ | ⟨g', cap, cur, h2, h3, h4, h5⟩⟩ := h
 · cases h2
 · simp only [Value.slice.injEq, Option.some.injEq, Addr.mk.injEq, and_true, true_and] at h2
   obtain ⟨rfl, rfl⟩ := h2
   exact ⟨h1, .inr ⟨g, N, cur, rfl, h3, hb.trans h4, h5⟩⟩

theorem chooseI_in (l : Nat) {ok : Nat → Prop} {W0 : World} (ls : List (List Int)) (_ : ls.length ≤ 1000) (bL capL g : Nat) (hg : ¬ ok g) (hlt : ∀ b, ok b → b < W0.heap.size)
   (all : List (List Int)) (J : List (List Int) → World → Prop) (Jp : List PanicEntry → World → Prop) (hJ : BearsO (AbE g) J) (hL : RowsI ok W0 bL ls)
   (hY : ∀ m pre x W1, pre ++ [x] <+: all → J pre W1 → ChoI g ls.length ls.length W1 x → YieldAt Fence.wide m Tryz.prog l #[.slice (some ⟨g, 0, none⟩) ls.length ls.length] W1 fun e W' => (e = .returned (.bool true) ∧ J (pre ++ [x]) W' ∧ KpE ok g W1 W') ∨ (∃ ch, e = .panicked ch ∧ Jp ch W')) :
   ∀ (r : List (List Int)) (d n : Nat) (xs : List Int) (done : List (List Int)) (W : World), d + r.length = ls.length → ls.drop d = r → xs.length = d → done ++ (combos r).map (xs ++ ·) <+: all → J done W → KeepOk ok W0 W → W0.heap.size ≤ W.heap.size → ChoI g d ls.length W xs →
     CallsIn Fence.wide n Tryz.prog 130 #[.slice (some ⟨bL, 0, none⟩) ls.length capL, .slice (some ⟨g, 0, none⟩) d ls.length, .func (.yield l) #[] #[]] W fun e W' =>
       (e = .returned (.bool true) ∧ J (done ++ (combos r).map (xs ++ ·)) W' ∧ KeepOk ok W0 W' ∧ W.heap.size ≤ W'.heap.size ∧ ChoI g d ls.length W' xs) ∨ (∃ ch, e = .panicked ch ∧ Jp ch W') := by
 intro r
 induction r with
 | nil =>
   intro d n xs done W hd hdrop hxs hall hJ0 hk hz hc
   obtain rfl : d = ls.length := by simpa using hd
   obtain ⟨fn, tmps, assign, body, hy, hR⟩ := hY (n - 1) done xs W (by simpa [combos] using hall) hJ0 hc
   have HR := Hi hR
   have HK := Hi hk
   have HC := Hi hc
   clear hR hk hc hY hd hdrop hJ0 hall
   refine callsIn_of_wp Tryz.func130 rfl trivial ?_ rfl
   simp only [Tryz.ntmps130, List.size_toArray, List.length_cons, List.length_nil, Nat.reduceAdd, Nat.reduceSub, Array.replicate_succ, Array.replicate_zero, List.push_toArray, List.append_toArray, List.nil_append, List.cons_append]
   gi_wp2_with (first | ((try refine ⟨wide_dep _, ?_⟩); refine HR.out.mono ?_; clear HR; rintro e W2 (⟨rfl, hJ2, hk2⟩ | ⟨ch, rfl, hp⟩)))
   · go_ret
     exact .inl ⟨rfl, by simpa [combos] using hJ2, HK.out.trans hk2.1, hk2.2.1, HC.out.block hk2.2.2⟩
   · exact ⟨rfl, .inr ⟨ch, rfl, hp⟩⟩
 | cons L r ih =>
   intro d n xs done W hd hdrop hxs hall hJ0 hk hz hc
   have HALL := Hi hall
   clear hall
   have hdl : d < ls.length := by simp at hd; omega
   rw [List.drop_eq_getElem_cons hdl] at hdrop
   obtain ⟨hLd, hr⟩ := List.cons.inj hdrop
   obtain ⟨a, cap, q0, hLl, hcells⟩ := (hL.keep hk).2 d hdl
   rw [hLd] at q0 hLl hcells
   unfold maxLen at hLl
   have HCE := Hi hcells
   have HIH := Hi ih
   have HK := Hi hk
   have HC := Hi hc
   have HR := Hi hr
   have HJ := Hi hJ0
   have HXS := Hi hxs
   have i1 : (0 : Int) ≤ (d : Int) := by omega
   have i2 : (d : Int) < (ls.length : Int) := by omega
   have hne : ((d : Int) == (ls.length : Int)) = false := by rw [beq_eq_false_iff_ne]; omega
   obtain ⟨i0, hi, hz0, hz1, hz2⟩ := info_parts (show (Tryz.prog.info? 3).map (fun i => (i.zero, i.size, i.bytes)) = some (some (.int .i64 0), 1, 8) by kernel_rfl)
   have hdr : d + 1 + r.length = ls.length := by simp at hd; omega
   clear hcells ih hk hc hr hJ0 hdrop hLd hd hY hxs
   refine callsIn_of_wp Tryz.func130 rfl trivial ?_ rfl
   simp only [Tryz.ntmps130, List.size_toArray, List.length_cons, List.length_nil, Nat.reduceAdd, Nat.reduceSub, Array.replicate_succ, Array.replicate_zero, List.push_toArray, List.append_toArray, List.nil_append, List.cons_append]
   gi_wp2
   gi_loopw [23] (fun i wr => ∃ j : Nat, j ≤ L.length ∧ i = .int .i64 j ∧ J (done ++ (combos (L.take j :: r)).map (xs ++ ·)) wr ∧ KeepOk ok W0 wr ∧ W.heap.size ≤ wr.heap.size ∧ ChoI g d ls.length wr xs) (fun i _ => L.length - (intOf i).toNat)
   case atStart => exact ⟨0, Nat.zero_le _, rfl, by simpa [combos] using HJ.out, HK.out, Nat.le_refl _, HC.out⟩
   case round =>
     obtain ⟨j, hj, rfl, hJr, hkr, hzr, hcr⟩ := hrel
     by_cases hlt' : j < L.length
     · obtain ⟨b, off, rfl, hb, hcs⟩ := HCE.out (by intro e; rw [e] at hlt'; simp at hlt')
       have hkw : KeepOk ok W wr := fun b hb => (hkr b hb).trans (HK.out b hb).symm
       have g0 := (cell_block (o := off + j) (hkw b hb)).trans (hcs j hlt')
       have hstep := combos_step xs L r j hlt'
       have hpf := (combos_prefix done xs L r j hlt').trans HALL.out
       obtain ⟨x, hq⟩ : ∃ x, L[j] = x := ⟨_, rfl⟩
       rw [hq] at g0 hstep hpf
       have HPF := Hi hpf
       clear hpf
       have HST := Hi hstep
       have HJR := Hi hJr
       have HKR := Hi hkr
       have HCR := Hi hcr
       have hA : Below wr.heap.size wr (wr.alloc (.cells #[.int .i64 x] 3)) := (Below.refl _ wr).alloc (Nat.le_refl _) _
       have HOW := Hi (own_grown hcr hA)
       have HA := Hi hA
       clear hq hcs hstep hJr hkr hcr hkw hA
       have j1 : (0 : Int) ≤ (j : Int) := by omega
       have j2 : (j : Int) < (L.length : Int) := by omega
       gi_wp2_with (gi_at_builtin; refine wpListIn_append_fits _ rfl _ _ 125 rfl 0 3 i0 1 Tryz.underlying125 hi hz1 g d ls.length _ rfl HOW.out ⟨wr.heap.size, 0, none⟩ 1 1 [.int .i64 x] rfl rfl ?c1 ?c2 (by omega) ?_)
       case c2 => simp [Value.oneCell']
       intro w' hown hgr
       have hgw : wr.grownBy w' (some g) := ⟨hgr.os.trans HA.out.os, hgr.tape.trans HA.out.tape, hgr.output.trans HA.out.output, Nat.le_trans HA.out.size hgr.size, fun k hk hne => (hgr.block k (Nat.lt_of_lt_of_le hk HA.out.size) hne).trans (HA.out.block k hk)⟩
       have hlw : ∀ b, ok b → b < wr.heap.size := fun b hb => by have := hlt b hb; omega
       have hzw := hgw.size
       have HC2 := Hi (HIH.out (d + 1) (n - 1) (xs ++ [x]) _ w' hdr HR.out (by simp [HXS.out]) HPF.out (hJ _ _ _ HJR.out hgw) (HKR.out.grown hgw hg hlw) (by omega) (by unfold ChoI; rw [List.map_append]; exact hown))
       clear hown hgr hgw hlw
       gi_wp2_with (first | (refine ⟨trivial, wide_dep _, ?_⟩; gi_at_call 130; refine HC2.out.mono ?_; clear HC2; rintro e W3 (⟨rfl, hJ3, hk3, hz3, hc3⟩ | ⟨ch, rfl, hp⟩)))
       · go_roundw
         case rel => exact ⟨j + 1, by omega, by go_num, by rw [HST.out, ← List.append_assoc]; exact hJ3, hk3, by omega, hc3.init HXS.out⟩
         case measure => simp [intOf]; omega
       · exact ⟨rfl, .inr ⟨ch, rfl, hp⟩⟩
     · rw [List.take_of_length_le (by omega)] at hJr
       have HJR := Hi hJr
       have HKR := Hi hkr
       have HCR := Hi hcr
       clear hJr hkr hcr
       gi_wp2
       go_ret
       exact .inl ⟨rfl, HJR.out, HKR.out, hzr, HCR.out⟩
theorem emptyI_any (a : Option Addr) (n cap : Nat) (hn : n ≤ maxLen) (w : World) : Calls Tryz.prog 129 #[.slice a n cap] w fun e w' => e = .returned (.bool (decide (n = 0))) ∧ w = w' := by
 unfold maxLen at hn
 by_cases h : n = 0
 · subst h
   go_enter Tryz.func129, Tryz.ntmps129
   go_wp2
   go_ret
   exact ⟨rfl, rfl⟩
 · have h0 : ((n : Int) == 0) = false := by simpa using h
   have H := Hi h
   clear h
   go_enter Tryz.func129, Tryz.ntmps129
   go_wp2
   go_ret
   exact ⟨by rw [decide_eq_false H.out]; rfl, rfl⟩

theorem indexEmptyI {ok : Nat → Prop} (ls : List (List Int)) (hN : ls.length ≤ 1000) (bL capL : Nat) (w : World) (hL : RowsI ok w bL ls) :
   Calls Tryz.prog 159 #[.slice (some ⟨bL, 0, none⟩) ls.length capL, .func (.func 129) #[] #[]] w fun e w' => FirstEmpty ls e ∧ w = w' := by
 have HL := Hi hL; clear hL
 go_enter Tryz.func159, Tryz.ntmps159
 go_wp2
 go_loop [8] (fun i => ∃ j : Nat, j ≤ ls.length ∧ i = .int .i64 j ∧ (ls.take j).any List.isEmpty = false) (fun i => ls.length - (intOf i).toNat)
 case atStart => exact ⟨0, by omega, by go_num, rfl⟩
 case round =>
   obtain ⟨j, hj, rfl, hf⟩ := hrel
   have HF := Hi hf; clear hf
   by_cases hlt : j < ls.length
   · obtain ⟨a, cap, g0, hl, _⟩ := HL.out.2 j hlt
     have HN := Hi (List.take_succ_eq_append_getElem hlt)
     have HC := Hi (emptyI_any a ls[j].length cap hl w)
     have i1 : (0 : Int) ≤ (j : Int) := by omega
     have i2 : (j : Int) < (ls.length : Int) := by omega
     by_cases ho : ls[j].length = 0
     · have HO := Hi (show ls.any List.isEmpty = true by rw [List.any_eq_true]; exact ⟨ls[j], List.getElem_mem hlt, by simpa using ho⟩)
       rw [decide_eq_true ho] at HC
       clear ho hl
       go_wp2_with (go_at_call 129; refine HC.out.mono ?_; rintro e w' ⟨rfl, rfl⟩)
       go_ret
       exact ⟨⟨_, rfl, by rw [HO.out]; simp⟩, rfl⟩
     · have HO := Hi (show (ls.take (j + 1)).any List.isEmpty = false by rw [HN.out, List.any_append, HF.out]; simpa using ho)
       rw [decide_eq_false ho] at HC
       clear ho hl
       go_wp2_with (go_at_call 129; refine HC.out.mono ?_; rintro e w' ⟨rfl, rfl⟩)
       go_round
       case rel => exact ⟨j + 1, by omega, by go_num, HO.out⟩
       case measure => simp [intOf]; omega
   · rw [List.take_of_length_le (by omega)] at HF
     go_wp2
     go_ret
     exact ⟨⟨_, rfl, by rw [HF.out]; rfl⟩, rfl⟩

theorem containsEmptyI {ok : Nat → Prop} (ls : List (List Int)) (hN : ls.length ≤ 1000) (bL capL : Nat) (w : World) (hL : RowsI ok w bL ls) :
   Calls Tryz.prog 128 #[.slice (some ⟨bL, 0, none⟩) ls.length capL, .func (.func 129) #[] #[]] w fun e w' => e = .returned (.bool (ls.any List.isEmpty)) ∧ w = w' := by
 have HC := Hi (indexEmptyI ls hN bL capL w hL); clear hL
 go_enter Tryz.func128, Tryz.ntmps128
 go_wp2_with (go_at_call 159; refine HC.out.mono ?_; clear HC; rintro e w' ⟨⟨i, rfl, hi⟩, rfl⟩)
 have HI := Hi hi; clear hi
 go_ret
 exact ⟨by rw [← HI.out]; rfl, rfl⟩

theorem makeI (N : Nat) (hN : N ≤ 1000) : ∃ CS : Array Value, CS.size = N * 1 ∧ ∀ w : World, (Instr.makeSlice 125 (.int .i64 0) (.int .i64 (N : Int))).run Tryz.prog w = .ok (.slice (some ⟨w.heap.size, 0, none⟩) 0 N) (w.alloc (.cells CS 3)) := by
 obtain ⟨i0, hi, hz0, hz1, hz2⟩ := info_parts (show (Tryz.prog.info? 3).map (fun i => (i.zero, i.size, i.bytes)) = some (some (.int .i64 0), 1, 8) by kernel_rfl)
 refine ⟨madeCells (Value.int .i64 0).cells (N * 1), size_madeCells _ _, fun w => ?_⟩
 have := run_make (P := Tryz.prog) w _ _ i0 _ Tryz.underlying125 hi hz0 .i64 .i64 0 N (Int.le_refl _) (by omega) (by rw [hz2]; omega) (by omega)
 simpa [hz1] using this

def FCI (l bL capL N H : Nat) (CS : Array Value) : Facts := fun i v w => match i with
 | 0 | 1 => v = .slice (some ⟨bL, 0, none⟩) N capL
 | 2 => v = .int .i64 N
 | 3 => ∃ g, H ≤ g ∧ v = .slice (some ⟨g, 0, none⟩) 0 N ∧ w.heap[g]? = some (.cells CS 3 (0, 0))
 | 4 => v = .func (.yield l) #[] #[]
 | _ => True
theorem FCI_grow (l bL capL N H : Nat) (CS : Array Value) (i : Nat) (v : Value) (w w' : World) (h : FCI l bL capL N H CS i v w) (hb : Below w.heap.size w w') : FCI l bL capL N H CS i v w' := by
 match i with
 | 0 | 1 | 2 | 4 => exact h
 | 3 =>
   obtain ⟨g, h1, h2, h3⟩ := h
   exact ⟨g, h1, h2, (hb.block g (gL h3)).trans h3⟩
 | i + 5 => trivial

theorem combosI_seq {ok : Nat → Prop} (ls : List (List Int)) (hN : ls.length ≤ 1000) (bL capL Bx n : Nat) (w : World) (hlt : ∀ b, ok b → b < w.heap.size) (hL : RowsI ok w bL ls)
   (hB : w.heap[Bx]? = some (.cells #[.slice (some ⟨bL, 0, none⟩) ls.length capL] 124 (0, 0))) :
   SeqAll n Tryz.prog 127 #[.pointer (some ⟨Bx, 0, none⟩)] (fun g (_ : List Int) => #[.slice (some ⟨g, 0, none⟩) ls.length ls.length]) AbE (KpE ok)
     (fun g x W => ChoI g ls.length ls.length W x) (combos ls) w := by
 intro l J Jp W hW hJ hst hY h0
 refine callsIn_wide.2 ?_
 have hlB : Bx < w.heap.size := (gL hB)
 have g0 : W.cell? ⟨Bx, 0, none⟩ = some (.slice (some ⟨bL, 0, none⟩) ls.length capL) := cells_at ((hW.block Bx hlB).trans hB) 0 _ rfl
 have hk0 : KeepOk ok w W := fun b hb => hW.block b (hlt b hb)
 have hBW : Bx < W.heap.size := Nat.lt_of_lt_of_le hlB hW.size
 have hlW : ∀ b, ok b → b < W.heap.size := fun b hb => Nat.lt_of_lt_of_le (hlt b hb) hW.size
 have HE := Hi (containsEmptyI ls hN bL capL W (hL.keep hk0))
 have HL := Hi (hL.keep hk0)
 have HJ := Hi h0
 have HLT := Hi hlW
 have HST := Hi hst
 have HY := Hi hY
 clear hL hk0 h0 hB hlt hW hst hY hlW
 cases he : ls.any List.isEmpty
 · rw [he] at HE
   clear he
   go_enter Tryz.func127, Tryz.ntmps127
   go_wp2_with (go_at_call 128; refine HE.out.mono ?_; clear HE; rintro e w' ⟨rfl, rfl⟩)
   obtain ⟨CS, hCS, hmk⟩ := makeI ls.length (by omega)
   have HCS := Hi hCS
   clear hCS
   have n1 : (0 : Int) ≤ (ls.length : Int) := by omega
   refine wp_region_grow_tail (by kernel_rfl) 5 (FCI l bL capL ls.length W.heap.size CS) (FCI_grow _ _ _ _ _ _) (by kernel_rfl) (by kernel_rfl) (steps_to ⟨?_, ?_, ?_, ?_, ?_, trivial⟩) ?_
   · intro a wx hb hd hs ho hp
     refine ⟨rfl, ?_⟩
     have h1 : a.tmps.getD 1 undef = _ := (ho 1 (by kernel_rfl)).trans rfl
     have x0 := (hb.cell (p := ⟨Bx, 0, none⟩) hBW).trans g0
     unfold Oper.wp
     go_simp
     exact Stepped.at rfl hd bR rfl
   · intro a wx hb hd hs ho hp
     refine ⟨rfl, ?_⟩
     have h1 : a.tmps.getD 1 undef = _ := (ho 1 (by kernel_rfl)).trans rfl
     have x0 := (hb.cell (p := ⟨Bx, 0, none⟩) hBW).trans g0
     unfold Oper.wp
     go_simp
     exact Stepped.at rfl hd bR rfl
   · intro a wx hb hd hs ho hp
     refine ⟨rfl, ?_⟩
     have h6 : a.tmps.getD 6 undef = .slice (some ⟨bL, 0, none⟩) ls.length capL := facts_at hp 1 6 (by kernel_rfl)
     unfold Oper.wp
     go_simp
     exact Stepped.at rfl hd bR rfl
   · intro a wx hb hd hs ho hp
     refine ⟨rfl, ?_⟩
     have h7 : a.tmps.getD 7 undef = .int .i64 ls.length := facts_at hp 2 7 (by kernel_rfl)
     unfold Oper.wp
     go_simp
     exact Stepped.at rfl hd (bR.alloc (Nat.le_refl _) _) ⟨wx.heap.size, hb.size, rfl, World.alloc_heap_new _ _⟩
   · intro a wx hb hd hs ho hp
     refine ⟨rfl, ?_⟩
     have h0 : a.tmps.getD 0 undef = _ := (ho 0 (by kernel_rfl)).trans rfl
     unfold Oper.wp
     go_simp
     exact Stepped.at rfl hd bR rfl
   intro a wx hb hd hs ho hf
   have k5 : a.tmps.getD 5 undef = .slice (some ⟨bL, 0, none⟩) ls.length capL := facts_to hf 0 5 (by decide) (by kernel_rfl)
   have k9 : a.tmps.getD 9 undef = .func (.yield l) #[] #[] := facts_to hf 4 9 (by decide) (by kernel_rfl)
   obtain ⟨g, hg1, k8, hg2⟩ : FCI l bL capL ls.length W.heap.size CS 3 (a.tmps.getD 8 undef) wx := facts_to hf 3 8 (by decide) (by kernel_rfl)
   have hgl : g < wx.heap.size := (gL hg2)
   have hkk : KeepOk ok W wx := fun b hb' => hb.block b (HLT.out b hb')
   have hcho : ChoI g 0 ls.length wx [] := ⟨rfl, .inr ⟨g, ls.length, CS, rfl, Nat.zero_le _, hg2, Nat.zero_le _, by unfold maxLen; omega, HCS.out, rfl⟩⟩
   have HCH := Hi (callsIn_wide.1 (chooseI_in l ls hN bL capL g (fun h => by have := HLT.out _ h; omega) (fun b hb' => Nat.lt_of_lt_of_le (HLT.out b hb') hb.size) (combos ls) (J (some g)) Jp (hJ g hg1) (HL.out.keep hkk) (fun m pre x W1 h0 h1 h2 => HY.out m g pre x W1 hg1 h0 h1 h2) ls 0 0 [] [] wx (by simp) rfl rfl (by simp) (HST.out g wx hg1 hgl hb) (KeepOk.refl _ _) (Nat.le_refl _) hcho))
   clear hkk hcho hg2 hb HL HST HY
   have hE := slots_all a.tmps 11 (hs.trans rfl)
   simp only [List.range, List.range.loop, List.map, k5, k8, k9, ho 0 (by kernel_rfl), ho 1 (by kernel_rfl)] at hE
   obtain ⟨T, D⟩ := a
   simp only at hE hd
   subst hd
   rw [hE]
   clear k5 k8 k9 hf hs ho hE
   go_wp2_with (go_at_call 130; refine HCH.out.mono ?_; clear HCH; rintro e W3 (⟨rfl, hJ3, _⟩ | ⟨ch, rfl, hp⟩))
   · go_end0
     exact .inl ⟨_, some g, rfl, by simpa using hJ3⟩
   · exact ⟨rfl, .inr ⟨ch, rfl, hp⟩⟩
 · have HE2 := Hi (combos_of_empty he)
   rw [he] at HE
   clear he
   go_enter Tryz.func127, Tryz.ntmps127
   go_wp2_with (go_at_call 128; refine HE.out.mono ?_; clear HE; rintro e w' ⟨rfl, rfl⟩)
   exact bodyPost_ret (v := .tuple #[]) (by simp [results, Tryz.f127, go_sem]) rfl (.inl ⟨_, none, rfl, by rw [HE2.out]; exact HJ.out⟩)

theorem combosI_any (a : Option Addr) (k c : Nat) (w : World) : Calls Tryz.prog 86 #[.slice a k c] w fun e w' => e = .returned (.func (.func 127) #[] #[.pointer (some ⟨w.heap.size, 0, none⟩)]) ∧ w' = w.alloc (.cells #[.slice a k c] 124) := by
 go_enter Tryz.func86, Tryz.ntmps86
 go_wp2
 go_ret
 exact ⟨rfl, rfl⟩
end Go.Proofs.YtlmdhlckgbgfhaaGreatDoor
namespace Go.Proofs.YtlmdhlckgbgfhaaGreatDoor
open Go.RowKit Go.Shelf
attribute [local go_sem] Oper.semAt_some

mutual
def Tm.Wf : Tm → Prop
 | .mk k n s args => args.length ≤ 8 ∧ (k = 4 → 1 ≤ args.length) ∧ (k = 5 → ∃ o, arOf s.toList args.length = some o) ∧ (k = 6 → args.length = 2) ∧ (k = 1 → -2147483647 ≤ n ∧ n ≤ 2147483647) ∧ Tm.WfL args
def Tm.WfL : List Tm → Prop
 | [] => True
 | t :: ts => t.Wf ∧ Tm.WfL ts
end
theorem Tm.WfL_mem : ∀ {ts : List Tm} {t : Tm}, Tm.WfL ts → t ∈ ts → t.Wf
 | a :: ts, t, h, hm => by
   rcases List.mem_cons.1 hm with rfl | hm
   · exact h.1
   · exact Tm.WfL_mem h.2 hm

theorem sortI_length (l : List Int) : (sortI l).length = l.length := by unfold sortI; exact List.length_mergeSort _
theorem spanL_length (a b : Int) : (spanL a b).length = (b - a + 1).toNat := by unfold spanL; simp
theorem exp_le {t : Tm} {ts : List Tm} (h : t.exp = some ts) : ts.length ≤ 1000 := by
 obtain ⟨k, n, s, args⟩ := t
 by_cases h4 : k = 4
 · subst h4
   rw [Tm.exp_fun, Option.bind_eq_some_iff] at h
   obtain ⟨ls, _, h⟩ := h
   split at h
   · cases h; simpa
   · cases h
 · by_cases h5 : k = 5
   · subst h5
     rw [Tm.exp_op, Option.bind_eq_some_iff] at h
     obtain ⟨ls, _, h⟩ := h
     split at h
     · cases h
     · split at h
       · cases h; simpa [sortI_length]
       · cases h
   · by_cases h6 : k = 6
     · subst h6
       rw [Tm.exp_span, Option.bind_eq_some_iff] at h
       obtain ⟨ls, _, h⟩ := h
       split at h
       · split at h
         · cases h; simp [spanL_length]; omega
         · cases h
       · cases h; simp
     · rw [Tm.exp_leaf h4 h5 h6] at h
       cases h; simp

def ExpPost (t : Tm) (w : World) (e : Ending) (w' : World) : Prop :=
 (∃ ts v, t.exp = some ts ∧ e = .returned v ∧ Vals none w.heap.size w' v ts ∧ Below w.heap.size w w') ∨ (t.exp = none ∧ e = .panicked boom ∧ Below w.heap.size w w')
def ExpAt (t : Tm) : Prop := ∀ (c0 c1 c2 c3 : Value) (w : World), IsTm w.heap.size w c0 c1 c2 c3 t → t.Wf → Calls Tryz.prog 33 #[.agg #[c0, c1, c2, c3]] w (ExpPost t w)

def RowIn (ok : Nat → Prop) (w : World) (v : Value) (ts : List Tm) : Prop := ∃ (a : Option Addr) (cap : Nat), v = .slice a ts.length cap ∧ ts.length ≤ maxLen ∧ (ts ≠ [] → ∃ b off, a = some ⟨b, off, none⟩ ∧ ok b ∧ IsTmsIn ok w b off ts)
theorem RowIn.keep {ok ok' : Nat → Prop} {w w' : World} (h : ∀ b, ok b → ok' b ∧ w'.heap[b]? = w.heap[b]?) {v : Value} {ts : List Tm} (hr : RowIn ok w v ts) : RowIn ok' w' v ts := by
 obtain ⟨a, cap, hv, hl, hr⟩ := hr
 refine ⟨a, cap, hv, hl, fun hne => ?_⟩
 obtain ⟨b, off, ha, hb, hi⟩ := hr hne
 exact ⟨b, off, ha, (h b hb).1, hi.keep h hb⟩
theorem Vals.rowIn {base B : Nat} {w : World} {v : Value} {ts : List Tm} (h : Vals none base w v ts) (_ : B ≤ base) : RowIn (fun b => base ≤ b ∧ b < w.heap.size) w v ts := by
 obtain ⟨xs, ho, hh, _⟩ := h
 have ho' := ho
 obtain ⟨_, ⟨rfl, hn⟩ | ⟨g, cap, cur, rfl, hb, hg, hc, hm, _, _⟩⟩ := ho
 · refine ⟨none, 0, by rw [hn], by rw [hn]; exact Nat.zero_le _, fun hne => absurd (List.length_eq_zero_iff.1 hn) hne⟩
 · refine ⟨some ⟨g, 0, none⟩, cap, rfl, Nat.le_trans hc hm, fun _ => ⟨g, 0, rfl, ⟨hb, (gL hg)⟩, ?_⟩⟩
   refine (HoldL.tms hh (off := 0) fun j u hu => ?_).cells (fun b hf => ⟨⟨hf.1, hf.2.1⟩, rfl⟩) rfl
   have := ho'.cells (g := g) rfl j u hu
   have hadd : (⟨g, 0, none⟩ : Addr).add j = ⟨g, j, none⟩ := by unfold Addr.add; split <;> simp_all
   rwa [hadd, show (⟨g, j, none⟩ : Addr) = ⟨g, 0 + j, none⟩ from by rw [Nat.zero_add]] at this

def ListsT (base : Nat) (w : World) (v : Value) (ls : List (List Tm)) : Prop :=
 ∃ vs : List Value, w.ownsRow base 22 1 v ls.length vs ∧ ∀ i (h : i < ls.length), ∃ u, vs[i]? = some u ∧ RowIn (fun b => base ≤ b ∧ b < w.heap.size ∧ v.ownBlock ≠ some b) w u ls[i]
theorem ListsT.nil (base : Nat) (w : World) : ListsT base w (.slice none 0 0) [] := ⟨[], World.ownsRow_nil _ _ _ _, fun i h => absurd h (by simp)⟩
theorem ListsT.grow {base : Nat} {w w' : World} {v : Value} {ls : List (List Tm)} (h : ListsT base w v ls) (hb : Below w.heap.size w w') : ListsT base w' v ls := by
 obtain ⟨vs, ho, hr⟩ := h
 refine ⟨vs, own_grown ho hb, fun i hi => ?_⟩
 obtain ⟨u, hu, hR⟩ := hr i hi
 exact ⟨u, hu, hR.keep fun b hf => ⟨⟨hf.1, Nat.lt_of_lt_of_le hf.2.1 hb.size, hf.2.2⟩, hb.block b hf.2.1⟩⟩
theorem ListsT.app {base : Nat} {w w' : World} {v v' u : Value} {ls : List (List Tm)} {vs : List Value} {ts : List Tm} (ho : w.ownsRow base 22 1 v ls.length vs)
   (hr : ∀ i (h : i < ls.length), ∃ u, vs[i]? = some u ∧ RowIn (fun b => base ≤ b ∧ b < w.heap.size ∧ v.ownBlock ≠ some b) w u ls[i]) (hu : RowIn (fun b => base ≤ b ∧ b < w.heap.size ∧ v.ownBlock ≠ some b) w u ts)
   (hown : w'.ownsRow base 22 1 v' (ls.length + 1) (vs ++ [u])) (hg : w.grownBy w' v.ownBlock) (hat : v'.ownBlock = v.ownBlock ∨ v'.ownBlock = some w.heap.size) : ListsT base w' v' (ls ++ [ts]) := by
 have hk : ∀ b, (base ≤ b ∧ b < w.heap.size ∧ v.ownBlock ≠ some b) → (base ≤ b ∧ b < w'.heap.size ∧ v'.ownBlock ≠ some b) ∧ w'.heap[b]? = w.heap[b]? := fun b hf =>
   ⟨⟨hf.1, Nat.lt_of_lt_of_le hf.2.1 hg.size, by
     rcases hat with e | e <;> rw [e]
     · exact hf.2.2
     · intro e'; cases e'; exact absurd hf.2.1 (by omega)⟩, hg.block b hf.2.1 (fun e => hf.2.2 e.symm)⟩
 have hvl : vs.length = ls.length := by have := ho.1; omega
 refine ⟨vs ++ [u], by simpa using hown, fun i hi => ?_⟩
 by_cases h : i < ls.length
 · obtain ⟨x, hx, hR⟩ := hr i h
   refine ⟨x, by rw [List.getElem?_append_left (by omega)]; exact hx, ?_⟩
   rw [List.getElem_append_left h]
   exact hR.keep hk
 · have hi' : i = ls.length := by simp at hi; omega
   subst hi'
   refine ⟨u, by rw [← hvl]; simp, ?_⟩
   rw [List.getElem_append_right (Nat.le_refl _)]
   simpa using hu.keep hk

theorem oneCells {ok : Nat → Prop} {w : World} : ∀ {ts : List Tm} {xs : List Value}, HoldL ok w xs ts → ∀ u ∈ xs, u.oneCell' = true
 | [], xs, h, u, hu => by rw [show xs = [] from h] at hu; cases hu
 | .mk k n s us :: ts, xs, ⟨c0, c1, c2, c3, r, e, ht, hr⟩, u, hu => by
   subst e
   simp only [IsTmIn] at ht
   obtain ⟨rfl, _, rfl, _, rfl, _, a, cap, rfl, _, _⟩ := ht
   simp only [List.mem_cons] at hu
   rcases hu with rfl | rfl | rfl | rfl | hu
   · rfl
   · rfl
   · rfl
   · rfl
   · exact oneCells hr u hu

theorem clone_any (g N : Nat) (xs : List Value) (hN : N ≤ 1000) (w : World) (ho : w.ownsRow 0 24 4 (.slice (some ⟨g, 0, none⟩) N N) N xs) (h1 : ∀ u ∈ xs, u.oneCell' = true) :
   Calls Tryz.prog 83 #[.slice (some ⟨g, 0, none⟩) N N] w fun e w' => ∃ v', e = .returned v' ∧ w'.ownsRow w.heap.size 24 4 v' N xs ∧ Below w.heap.size w w' := by
 obtain ⟨i0, hi, hz0, hz1, hz2⟩ := info_parts info_term
 have HO := Hi ho
 have H1 := Hi h1
 have hlg : g < w.heap.size := (ho.lt g rfl).2
 clear ho h1
 have hnil : ∀ w : World, (binOp .eql 22 (.slice (some ⟨g, 0, none⟩) N N) (.slice none 0 0)).run Tryz.prog w = .ok (.bool false) w := fun w => by
   simp only [binOp]; simp [Op.equal, Op.maxDepth, Lib.run_equalIn_slice_nil w 9999 22 24 (some ⟨g, 0, none⟩) N N 0 0 Tryz.underlying22]
 go_enter Tryz.func83, Tryz.ntmps83
 go_wp2_with (at_builtin; refine wpList_append_own _ rfl _ _ 22 rfl w.heap.size 24 i0 _ 4 56 Tryz.underlying22 hi hz0 hz1 hz2 rfl (by decide) _ 0 [] rfl ?c0 ⟨g, 0, none⟩ N N xs rfl HO.out.1 ?c1 H1.out ?c3 ?c4 ?c5 ?_)
 case c0 => exact World.ownsRow_made w #[] 0 (Nat.le_refl _) (by unfold maxLen; omega) rfl
 case c1 =>
   intro j u hu
   have := HO.out.cells (g := g) rfl j u hu
   have hadd : (⟨g, 0, none⟩ : Addr).add j = ⟨g, j, none⟩ := by unfold Addr.add; split <;> simp_all
   rw [hadd] at this ⊢
   rw [← this]
   exact cell_block (((Below.refl _ w).alloc (Nat.le_refl _) _).block g hlg)
 case c3 => unfold maxLen; omega
 case c4 => omega
 case c5 => simp
 intro v' w' hown hg hat
 go_wp2
 go_ret
 exact ⟨v', rfl, by simpa using hown, ((Below.refl _ w).alloc (Nat.le_refl _) _).trans ⟨hg.os, hg.tape, hg.output, hg.size, fun k hk => hg.block k (by simp; omega) (by simp [Value.ownBlock]; omega)⟩⟩
end Go.Proofs.YtlmdhlckgbgfhaaGreatDoor
namespace Go.Proofs.YtlmdhlckgbgfhaaGreatDoor
open Go.RowKit

def regionB (ops : Array Oper) (n : Nat) : Bool := (List.range ops.size).all fun i =>
 match ops[i]? with
 | none => true
 | some o => (o.after.all fun e => !Region.binds .any e || decide (e.on < i)) && (match o.dst with
   | none => true
   | some d => decide (d < n) && (List.range i).all fun j => match ops[j]? with
     | some oj => oj.dst != some d
     | none => true)
theorem regionB_spec {ops : Array Oper} {n : Nat} (h : regionB ops n = true) (i : Nat) (o : Oper) (ho : ops[i]? = some o) :
   (∀ e ∈ o.after, Region.binds .any e = true → e.on < i) ∧ ∀ d, o.dst = some d → d < n ∧ ∀ j oj, j < i → ops[j]? = some oj → oj.dst ≠ some d := by
 unfold regionB at h
 have h1 := List.all_eq_true.1 h i (List.mem_range.2 (gL ho))
 simp only [ho, Bool.and_eq_true] at h1
 refine ⟨fun e he hb => ?_, fun d hd => ?_⟩
 · have := (Array.all_eq_true_iff_forall_mem.1 h1.1) e he
   simpa [hb] using this
 · have h2 := h1.2
   rw [hd] at h2
   simp only [Bool.and_eq_true] at h2
   refine ⟨of_decide_eq_true h2.1, fun j oj hj hoj => ?_⟩
   have h3 := List.all_eq_true.1 h2.2 j (List.mem_range.2 hj)
   simp only [hoj] at h3
   simpa using h3

theorem HeadInvT.putB {ops : Array Oper} {n : Nat} {Φ : Facts} {a0 : Act} {w0 : World} (hst : ∀ i v w w', Φ i v w → Below w.heap.size w w' → Φ i v w') (hok : regionB ops a0.tmps.size = true)
   {listed : Array Bool} {a : Act} {w : World} (hJ : HeadInvT ops n Φ a0 w0 listed a w) {i : Nat} {o : Oper} (hin : i < n) (ho : ops[i]? = some o) {v : Value} {w' : World} (hb : Below w.heap.size w w') (hv : ∀ d, o.dst = some d → Φ i v w') :
   HeadInvT ops n Φ a0 w0 (listed.setIfInBounds i true) (a.put o.dst v) w' := by
 refine ⟨hJ.below.trans (hb.mono hJ.below.size), ?_, ?_, ?_, ?_⟩
 · rw [← hJ.defers]; cases o.dst <;> rfl
 · rw [← hJ.tmps]; cases o.dst <;> simp [Act.put]
 · intro t ht
   rw [← hJ.outer t ht]
   cases hd : o.dst with
   | none => rfl
   | some d =>
     have hne : d ≠ t := fun e => noDstTo_spec ht i hin o ho (by rw [hd, e])
     simp [Act.put, Array.getD_eq_getD_getElem?, Array.getElem?_setIfInBounds_ne hne]
 · intro j oj d hoj hjn hlj hd
   by_cases hji : j = i
   · subst hji
     obtain rfl : oj = o := by rw [ho] at hoj; exact (Option.some.inj hoj).symm
     have hdn := ((regionB_spec hok j oj ho).2 d hd).1
     rw [hd]
     have e : (a.put (some d) v).tmps.getD d undef = v := by
       have : d < a.tmps.size := by rw [hJ.tmps]; exact hdn
       simp [Act.put, Array.getD_eq_getD_getElem?, this]
     rw [e]
     exact hv d hd
   · have hlj' : listed.getD j false = true := by
       simpa [Array.getD_eq_getD_getElem?, Array.getElem?_setIfInBounds_ne (fun e => hji e.symm)] using hlj
     have hf0 := hst _ _ _ _ (hJ.facts j oj d hoj hjn hlj' hd) hb
     cases hd' : o.dst with
     | none => exact hf0
     | some d' =>
       have hne : d' ≠ d := by
         intro e
         subst e
         rcases Nat.lt_or_gt_of_ne hji with h | h
         · exact ((regionB_spec hok i o ho).2 d' hd').2 j oj h hoj hd
         · exact ((regionB_spec hok j oj hoj).2 d' hd).2 i o h ho hd'
       simpa [Act.put, Array.getD_eq_getD_getElem?, Array.getElem?_setIfInBounds_ne hne] using hf0

def headOk (ops : Array Oper) (n : Nat) : Bool := decide (n ≤ ops.size) && (List.range ops.size).all fun m => decide (m < n) || (List.range n).all fun j => waitsT ops ops.size m j
theorem headOk_le {ops : Array Oper} {n : Nat} (h : headOk ops n = true) : n ≤ ops.size := by
 unfold headOk at h
 rw [Bool.and_eq_true] at h
 simpa using h.1
theorem headOk_spec {ops : Array Oper} {n : Nat} (h : headOk ops n = true) (m : Nat) (hm : m < ops.size) (hn : n ≤ m) (j : Nat) (hj : j < n) : waitsT ops ops.size m j = true := by
 unfold headOk at h
 rw [Bool.and_eq_true] at h
 have h1 := List.all_eq_true.1 h.2 m (List.mem_range.2 hm)
 rw [Bool.or_eq_true] at h1
 rcases h1 with h1 | h1
 · have := of_decide_eq_true h1; omega
 · exact List.all_eq_true.1 h1 j (List.mem_range.2 hj)

section
variable {F : Fence} {n0 : Nat} {P : Program} {ops : Array Oper} {Q : Exit → Act → World → Prop}
def StepIn (F : Fence) (n0 : Nat) (P : Program) (ops : Array Oper) (n : Nat) (Q : Exit → Act → World → Prop) (Φ : Facts) (a0 : Act) (w0 : World) (i : Nat) (o : Oper) : Prop :=
 ∀ a w, Below w0.heap.size w0 w → a.defers = a0.defers → a.tmps.size = a0.tmps.size →
   (∀ t, noDstTo ops n t = true → a.tmps.getD t undef = a0.tmps.getD t undef) →
   (∀ j oj d, waitsFor o j = true → ops[j]? = some oj → oj.dst = some d → Φ j (a.tmps.getD d undef) w) →
   Region.wanted o (yielded ops a.tmps) = true ∧ o.wpIn F n0 P a w (Stepped Φ i o a w) Q

def headDone (n m : Nat) : Array Bool := ((List.range m).map fun j => decide (j < n)).toArray
theorem headDone_get (n m j : Nat) (h : j < m) : (headDone n m).getD j false = decide (j < n) := by
 simp [headDone, Array.getD_eq_getD_getElem?, h]

theorem ready_mem {listed : Array Bool} {i : Nat} (h : i ∈ Region.ready .any ops listed) :
   ∃ o, ops[i]? = some o ∧ i < ops.size ∧ listed.getD i true = false ∧ ∀ e ∈ o.after, Region.binds .any e = true → listed.getD e.on false = true := by
 unfold Region.ready at h
 obtain ⟨hir, hib⟩ := List.mem_filter.1 h
 have hi' : i < ops.size := List.mem_range.1 hir
 obtain ⟨o, ho⟩ : ∃ o, ops[i]? = some o := ⟨ops[i], Array.getElem?_eq_getElem hi'⟩
 simp only [ho, Option.map_some, Option.getD_some, Bool.and_eq_true, Bool.not_eq_true', Array.all_eq_true_iff_forall_mem, Bool.or_eq_true] at hib
 obtain ⟨hil, hie⟩ := hib
 exact ⟨o, ho, hi', hil, fun e he hb => (hie e he).resolve_left (by rw [hb]; decide)⟩
theorem ready_least {n : Nat} (hok : regionB ops n = true) {listed : Array Bool} (hs : listed.size = ops.size) {k : Nat} (hk : k < ops.size) (hun : listed.getD k false = false) : Region.ready .any ops listed ≠ [] := by
 induction k using Nat.strongRecOn with
 | _ k ih =>
   by_cases hall : ∀ j, j < k → listed.getD j false = true
   · have hmem : k ∈ Region.ready .any ops listed := by
       unfold Region.ready
       obtain ⟨o, ho⟩ : ∃ o, ops[k]? = some o := ⟨ops[k], Array.getElem?_eq_getElem hk⟩
       refine List.mem_filter.2 ⟨List.mem_range.2 hk, ?_⟩
       simp only [ho, Option.map_some, Option.getD_some, Bool.and_eq_true, Bool.not_eq_true', Array.all_eq_true_iff_forall_mem, Bool.or_eq_true]
       refine ⟨by rw [getD_true_false (by omega)]; exact hun, fun e he => (by cases hbe : Region.binds .any e with
         | false => exact Or.inl rfl
         | true => exact Or.inr (hall _ ((regionB_spec hok k o ho).1 e he hbe)))⟩
     intro e
     rw [e] at hmem
     cases hmem
   · have : ∃ j, j < k ∧ listed.getD j false ≠ true := Classical.byContradiction fun h => hall fun j hj => Classical.byContradiction fun h' => h ⟨j, hj, h'⟩
     obtain ⟨j, hj, hne⟩ := this
     exact ih j hj (by omega) (by simpa using hne)
theorem missing_set {listed : Array Bool} {i : Nat} (hls : i < listed.size) (hi' : i < ops.size) (hil : listed.getD i true = false) :
   ((List.range ops.size).filter fun j => !(listed.setIfInBounds i true).getD j true).length < ((List.range ops.size).filter fun j => !listed.getD j true).length := by
 have hsub : ((List.range ops.size).filter fun j => !(listed.setIfInBounds i true).getD j true) = ((List.range ops.size).filter fun j => !listed.getD j true).filter (fun j => j != i) := by
   rw [List.filter_filter]
   apply List.filter_congr
   intro j hj
   by_cases e : j = i
   · subst e; simp [Array.getD_eq_getD_getElem?, hls]
   · simp [Array.getD_eq_getD_getElem?, Array.getElem?_setIfInBounds_ne (fun h => e h.symm), e]
 rw [hsub]
 exact List.length_filter_lt_length_iff_exists.2 ⟨i, List.mem_filter.2 ⟨List.mem_range.2 hi', by simpa using hil⟩, by simp⟩
theorem missing_tail (n : Nat) : ∀ m, ((List.range m).filter fun j => !decide (j < n)).length = m - n
 | 0 => by simp
 | m + 1 => by
   rw [List.range_succ, List.filter_append, List.length_append, missing_tail n m]
   by_cases h : m < n
   · simp [h]; omega
   · simp [h]; omega

theorem wpIn_region_head {id : Nat} {a0 : Act} {w0 : World} (hm : P.follows .mixedOrders = true) (n : Nat) (Φ : Facts) (hst : ∀ i v w w', Φ i v w → Below w.heap.size w w' → Φ i v w')
   (hok : regionB ops a0.tmps.size = true) (hhd : headOk ops n = true)
   (step : ∀ i o, ops[i]? = some o → i < n → StepIn F n0 P ops n Q Φ a0 w0 i o)
   (tail : ∀ m a w, Below w0.heap.size w0 w → a.defers = a0.defers → a.tmps.size = a0.tmps.size → (∀ t, noDstTo ops n t = true → a.tmps.getD t undef = a0.tmps.getD t undef) →
     (∀ i o d, ops[i]? = some o → i < n → o.dst = some d → Φ i (a.tmps.getD d undef) w) → wpAnyIn F n0 P .any ops Q (m + (ops.size - n)) (headDone n ops.size) a w) : (Code.region id ops true).wpIn F n0 P Q a0 w0 := by
 have hle := headOk_le hhd
 refine wpIn_region_any hm ?_
 have main : ∀ (fuel : Nat) (l : Array Bool) (a : Act) (w : World), l.size = ops.size → ListedOk ops l → (∀ j, n ≤ j → l.getD j false = false) → HeadInvT ops n Φ a0 w0 l a w →
     ((List.range ops.size).filter fun i => !l.getD i true).length ≤ fuel → wpAnyIn F n0 P .any ops Q fuel l a w := by
   intro fuel
   induction fuel with
   | zero =>
     intro l a w hls hcl hun hJ hf
     have hnil := List.length_eq_zero_iff.1 (Nat.le_zero.1 hf)
     rw [List.filter_eq_nil_iff] at hnil
     have hall : ∀ j, j < ops.size → l.getD j false = true := by
       intro j hj
       have := hnil j (List.mem_range.2 hj)
       rw [← getD_true_false (by omega)]
       simpa using this
     have hn : n = ops.size := by
       by_cases e : n < ops.size
       · have := hall n e; rw [hun n (Nat.le_refl _)] at this; cases this
       · omega
     have heq : l = headDone n ops.size := by
       apply Array.ext
       · simp [headDone, hls]
       · intro i h1 h2
         have h3 := hall i (by omega)
         have h4 := headDone_get n ops.size i (by omega)
         simp only [Array.getD, h1, h2, dif_pos] at h3 h4
         show l[i] = (headDone n ops.size)[i]
         have h5 : l[i] = true := h3
         have h6 : (headDone n ops.size)[i] = decide (i < n) := h4
         rw [h5, h6, decide_eq_true (by omega)]
     have H := tail 0 a w hJ.below hJ.defers hJ.tmps hJ.outer (fun j oj d hoj hj hd => hJ.facts j oj d hoj hj (hall j (by omega)) hd)
     rw [heq]
     rwa [show 0 + (ops.size - n) = 0 from by omega] at H
   | succ fuel ih =>
     intro l a w hls hcl hun hJ hf
     by_cases hall : ∀ j, j < n → l.getD j false = true
     · have heq : l = headDone n ops.size := by
         apply Array.ext
         · simp [headDone, hls]
         · intro i h1 h2
           have h4 := headDone_get n ops.size i (by omega)
           have h3 : l.getD i false = decide (i < n) := by
             by_cases e : i < n
             · rw [hall i e, decide_eq_true e]
             · rw [hun i (by omega), decide_eq_false e]
           simp only [Array.getD, h1, h2, dif_pos] at h3 h4
           exact h3.trans h4.symm
       have H := fun m => tail m a w hJ.below hJ.defers hJ.tmps hJ.outer (fun j oj d hoj hj hd => hJ.facts j oj d hoj hj (hall j hj) hd)
       have hmiss : ((List.range ops.size).filter fun i => !l.getD i true).length = ops.size - n := by
         rw [← missing_tail n ops.size]
         congr 1
         apply List.filter_congr
         intro j hj
         have hj' := List.mem_range.1 hj
         rw [getD_true_false (by omega), heq, headDone_get n ops.size j hj']
       rw [heq]
       have := H (fuel + 1 - (ops.size - n))
       rwa [show fuel + 1 - (ops.size - n) + (ops.size - n) = fuel + 1 from by omega] at this
     · have hex : ∃ j, j < n ∧ l.getD j false ≠ true := Classical.byContradiction fun h => hall fun j hj => Classical.byContradiction fun h' => h ⟨j, hj, h'⟩
       obtain ⟨j0, hj0, hne0⟩ := hex
       refine ⟨fun hr => absurd hr (ready_least hok hls (by omega : j0 < ops.size) (by simpa using hne0)), fun i hi => ?_⟩
       obtain ⟨o, ho, hi', hil, hie⟩ := ready_mem hi
       have hil' : l.getD i false = false := by rw [← getD_true_false (by omega)]; exact hil
       have hin : i < n := by
         by_cases e : i < n
         · exact e
         · have := waits_listed hcl j0 ops.size i o ho hie (headOk_spec hhd i hi' (by omega) j0 hj0)
           exact absurd this hne0
       obtain ⟨hw, hwp⟩ := step i o ho hin a w hJ.below hJ.defers hJ.tmps hJ.outer (fun j oj d hwt hoj hd => by
         obtain ⟨e, he, hej, hb⟩ := waitsFor_spec hwt
         have hji : j < i := by rw [← hej]; exact (regionB_spec hok i o ho).1 e he hb
         exact hJ.facts j oj d hoj (by omega) (hej ▸ hie e he hb) hd)
       unfold wpOpIn
       simp only [ho, hw, if_true]
       refine Oper.wpIn_mono ?_ hwp
       rintro a' w' ⟨v, rfl, hb, hv⟩
       have := missing_set (ops := ops) (by omega : i < l.size) hi' hil
       exact ih _ _ _ (by simp [hls]) (hcl.set hls ho hie) (fun j hj => by rw [getD_set_ne (by omega)]; exact hun j hj) (hJ.putB hst hok hin ho hb hv) (by omega)
 refine main ops.size _ a0 _ (by simp) ?_ ?_ ⟨(Below.refl _ w0).drew, rfl, rfl, fun _ _ => rfl, ?_⟩ ?_
 · intro i o ho hl
   have hi := (gL ho)
   simp [Array.getD_eq_getD_getElem?, hi] at hl
 · intro j _
   by_cases hj : j < ops.size <;> simp [Array.getD_eq_getD_getElem?, hj]
 · intro i o d ho _ hl _
   have hi := (gL ho)
   simp [Array.getD_eq_getD_getElem?, hi] at hl
 · exact Nat.le_trans (List.length_filter_le _ _) (by simp)

def StepsIn' (F : Fence) (n0 : Nat) (P : Program) (ops : Array Oper) (n : Nat) (Q : Exit → Act → World → Prop) (Φ : Facts) (a0 : Act) (w0 : World) : Nat → List Oper → Prop
 | _, [] => True
 | i, o :: r => StepIn F n0 P ops n Q Φ a0 w0 i o ∧ StepsIn' F n0 P ops n Q Φ a0 w0 (i + 1) r
theorem stepsIn_get {n : Nat} {Φ : Facts} {a0 : Act} {w0 : World} : ∀ {l : List Oper} {k : Nat}, StepsIn' F n0 P ops n Q Φ a0 w0 k l → ∀ i o, l[i]? = some o → StepIn F n0 P ops n Q Φ a0 w0 (k + i) o
 | [], _, _, i, o, h => by simp at h
 | x :: r, k, hs, i, o, h => by
   cases i with
   | zero => simp at h; subst h; exact hs.1
   | succ i =>
     have := stepsIn_get hs.2 i o (by simpa using h)
     rwa [show k + 1 + i = k + (i + 1) by omega] at this
theorem steps_in {n : Nat} {Φ : Facts} {a0 : Act} {w0 : World} (H : StepsIn' F n0 P ops n Q Φ a0 w0 0 (ops.toList.take n)) : ∀ i o, ops[i]? = some o → i < n → StepIn F n0 P ops n Q Φ a0 w0 i o := by
 intro i o ho hi
 have := stepsIn_get H i o (by rw [List.getElem?_take_of_lt hi]; simpa using ho)
 rwa [Nat.zero_add] at this

theorem any_op {fuel i : Nat} {o : Oper} {listed : Array Bool} {a : Act} {w : World} (ho : ops[i]? = some o)
   (h : wpListIn F n0 P ops (Exit.then (wpAnyIn F n0 P .any ops Q fuel (listed.setIfInBounds i true)) Q) [o] a w) : wpOpIn F n0 P ops Q i (wpAnyIn F n0 P .any ops Q fuel (listed.setIfInBounds i true)) a w := by
 unfold wpOpIn
 simp only [ho]
 unfold wpListIn at h
 split
 · rename_i hw
   rw [if_pos hw] at h
   unfold Oper.wpIn at h ⊢
   refine ⟨h.1, ?_⟩
   have h := h.2
   have hout : LetsOut (Exit.then (wpAnyIn F n0 P .any ops Q fuel (listed.setIfInBounds i true)) Q) → LetsOut Q := fun h => h
   generalize (o.semAt F.round a.eval).run P w = r at *
   cases r with
   | ok x w' =>
     cases x <;> simp only [Oper.uponIn] at h ⊢ <;>
       first
         | exact h
         | exact ⟨h.1, CallsIn.mono h.2 (fun e w'' he => by cases e <;> first | exact he | exact hout he)⟩
         | exact ⟨h.1, RowsIn.mono h.2 (fun _ _ he => he)⟩
         | exact ⟨h.1, RoundIn.mono h.2 (fun e w'' he => by cases e <;> first | exact he | exact hout he)⟩
   | halt x w' => cases x <;> simp only [Oper.uponIn] at h ⊢ <;> exact h
 · rename_i hw
   rw [if_neg hw] at h
   exact ⟨h.1, h.2⟩
theorem any_one {fuel i : Nat} {o : Oper} {listed : Array Bool} {a : Act} {w : World} (hr : Region.ready .any ops listed = [i]) (ho : ops[i]? = some o)
   (h : wpListIn F n0 P ops (Exit.then (wpAnyIn F n0 P .any ops Q fuel (listed.setIfInBounds i true)) Q) [o] a w) : wpAnyIn F n0 P .any ops Q (fuel + 1) listed a w :=
 ⟨fun e => (by rw [hr] at e; cases e), fun j hj => by
   rw [hr] at hj
   obtain rfl : j = i := by simpa using hj
   exact any_op ho h⟩
theorem any_two {fuel i j : Nat} {o p : Oper} {listed : Array Bool} {a : Act} {w : World} (hr : Region.ready .any ops listed = [i, j]) (ho : ops[i]? = some o) (hp : ops[j]? = some p)
   (h : wpListIn F n0 P ops (Exit.then (wpAnyIn F n0 P .any ops Q fuel (listed.setIfInBounds i true)) Q) [o] a w)
   (k : wpListIn F n0 P ops (Exit.then (wpAnyIn F n0 P .any ops Q fuel (listed.setIfInBounds j true)) Q) [p] a w) : wpAnyIn F n0 P .any ops Q (fuel + 1) listed a w :=
 ⟨fun e => (by rw [hr] at e; cases e), fun x hx => by
   rw [hr] at hx
   rcases List.mem_cons.1 hx with rfl | hx
   · exact any_op ho h
   · obtain rfl : x = j := by simpa using hx
     exact any_op hp k⟩
end
end Go.Proofs.YtlmdhlckgbgfhaaGreatDoor
