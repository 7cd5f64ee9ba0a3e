/- Texts that belong together: Package term: Value. Package store: ground atoms: Valid; copies of atoms; depend.Of. The text of a valid term can be read in one way only: plain mathematics. Every valid term is what its text reads as, so different terms have different texts: plain mathematics. Every valid term is what its text reads as: the induction; different valid terms have different texts. How long a text is, and that it is not empty. Package store: texts of ground atoms. Package store: text; different ground atoms have different texts. Package store: maps from texts, predicates and places; maps whose elements are slices -/
import Derived.Test.YtcoieohbmkjpoaaGreatDoorB1b
import Derived.Test.YtcoieohbmkjpoaaGreatDoorShelf
import Derived.Test.YtcoieohbmkjpoaaGreatDoorB1a
import Derived.DeepKeys5
import Derived.Maps.OwnOps
import Derived.Maps.OwnSet
import Derived.Maps.OwnIn
import Derived.Maps.OwnRows
import Derived.WideKeyEntry
namespace Go.Proofs.YtcoieohbmkjpoaaGreatDoor
open Go.RowKit Go.Shelf
attribute [local go_sem] Oper.semAt_some

def plainB (x : Tm × Nat) : Bool := decide (x.1.kind = 1) || decide (x.1.kind = 2) || decide (x.1.kind = 4)
def preB {n₀ : Nat} {wt : World} (p : Tm × Nat → Bool) (pre : List (NdIn n₀ wt)) : Bool := pre.all fun x => p x.key
def Tm.valueB (t : Tm) : Bool := t.validB && (t.nodes 1).all plainB

set_option maxRecDepth 100000 in
set_option maxHeartbeats 2000000 in
theorem value_in (t : Tm) (c0 c1 c2 c3 : Value) (w : World) (ht : IsTm w.heap.size w c0 c1 c2 c3 t) (hdep : t.depth < 4611686018427387900) :
    CallsIn Fence.wide 8 Tryz.prog 30 #[.agg #[c0, c1, c2, c3]] w fun e w' => e = .returned (.bool t.valueB) ∧ Below w.heap.size w w' := by
  have hd : Fence.wide.depth = none := rfl
  have hro : Fence.wide.round = none := rfl
  have hg : t.valueB = (t.validB && (t.nodes 1).all plainB) := rfl
  have HG := Lib.hid hg; clear hg
  have ht2 : IsTm (w.heap.size + 1 + 1) ((w.alloc (.cells #[c0, c1, c2, c3] 46)).alloc (.cells #[.bool false] 4)) c0 c1 c2 c3 t :=
    (ht.below (((Below.refl _ w).alloc (Nat.le_refl _) _).alloc (by simp) _)).mono (by omega)
  have HT2 := Lib.hid ht2; clear ht2
  refine callsIn_of_wp_marks Tryz.func30 rfl trivial ?_ hro
  simp only [Tryz.ntmps30, List.size_toArray, List.length_cons, List.length_nil, Nat.reduceAdd, Nat.reduceSub, Array.replicate_succ, Array.replicate_zero, List.push_toArray, List.append_toArray, List.nil_append, List.cons_append]
  gi_wp2_with (refine ⟨trivial, ?_⟩; gi_at_call 69; refine (callsIn_wide.2 (valid_any t _ _ _ _ _ (by simpa using HT2.out) hdep)).mono ?_)
  rintro e w1 ⟨rfl, hB1⟩
  simp only [World.size_alloc] at hB1
  have hz1 := hB1.size
  simp only [World.size_alloc] at hz1
  have hBw : Below w.heap.size w w1 := (((Below.refl _ w).alloc (Nat.le_refl _) _).alloc (by simp) _).trans (hB1.mono (by omega))
  have hb1 : w1.heap[w.heap.size]? = some (.cells #[c0, c1, c2, c3] 46 (0, 0)) :=
    (hB1.block _ (by omega)).trans ((Below.heap_alloc _ _ _ (by simp)).trans (World.alloc_heap_new w _))
  have hbr : Boxed w1 (w.heap.size + 1) 4 (.bool false) := by
    refine (hB1.block _ (by omega)).trans ?_
    have := Boxed.new (w.alloc (.cells #[c0, c1, c2, c3] 46)) 4 (.bool false)
    rw [World.size_alloc] at this; exact this
  have hlt0 : w.heap.size < w1.heap.size := by omega
  have hlt1 : w.heap.size + 1 < w1.heap.size := by omega
  cases hvd : t.validB
  · have HVD := Lib.hid hvd
    have qd := hbr.cell
    have qf := hbr.frozen
    have hc5 := World.cell?_setCell_same' w1 ⟨w.heap.size + 1, 0, none⟩ (.bool false) (by rw [qd]; rfl)
    have HC := Lib.hid hc5; clear hc5
    gi_wp2
    have hc5 := HC.out
    refine ⟨.bool false, ?_, by rw [HG.out, HVD.out]; rfl, ?_⟩
    · simp [results, Tryz.f30, go_sem, hc5]
    · exact hBw.setCell (p := ⟨w.heap.size + 1, 0, none⟩) (by simp) _
  have HVD := Lib.hid hvd
  have g0 := cells_at hb1 0 c0 rfl
  have g1 := cells_at hb1 1 c1 rfl
  have g2 := cells_at hb1 2 c2 rfl
  have g3 := cells_at hb1 3 c3 rfl
  gi_wp2_with (refine ⟨trivial, ?_⟩; gi_at_call 70; refine (subterms_in Fence.wide 7 trivial hro _ _ _ _ _).mono ?_; rintro e w' ⟨rfl, rfl⟩)
  obtain ⟨W0, hW0⟩ : ∃ W0, w1.alloc (.cells #[c0, c1, c2, c3] 46) = W0 := ⟨_, rfl⟩
  have hsz : W0.heap.size = w1.heap.size + 1 := by rw [← hW0]; simp
  have hb0 : Below w.heap.size w W0 := by rw [← hW0]; exact hBw.alloc (by omega) _
  have hbd : Boxed W0 (w.heap.size + 1) 4 (.bool false) := by rw [← hW0]; exact hbr.alloc _
  have hbt : W0.heap[w1.heap.size]? = some (.cells #[c0, c1, c2, c3] 46 (0, 0)) := by rw [← hW0]; exact World.alloc_heap_new w1 _
  rw [hW0]
  clear hW0 hb1 hbr g0 g1 g2 g3
  refine wpIn_rangeFunc_ownH hro (by omega) (gf := 104) (lb := #[.pointer (some ⟨w1.heap.size, 0, none⟩)]) rfl trivial (enters_of Tryz.func104 (by kernel_rfl) rfl)
    (subterms_stops Fence.wide hd 7 trivial trivial hro w1.heap.size w.heap.size w W0 t c0 c1 c2 c3 (by omega) hb0 ht hdep hbt) Kept.trans
    (fun W l o o' hl h hc _ => Kept.putObj o' (by omega) (by have := (Array.getElem?_eq_some_iff.1 h).1; omega) h hc) (Below.refl _ _) (fun _ => rfl)
    (fun pre W => Boxed W (w.heap.size + 1) 4 (.bool false) ∧ (Below w.heap.size w W ∧ W0.heap.size ≤ W.heap.size) ∧ preB plainB pre = true)
    (fun c pre W => Boxed W (w.heap.size + 1) 4 (.bool false) ∧ (Below w.heap.size w W ∧ W0.heap.size ≤ W.heap.size) ∧ (c = .ret ∧ preB plainB pre = false))
    (OwnFrom.and (Own.from (boxed_own _ _ fun _ => .bool false) _) (OwnFrom.and (OwnFrom.and (ownFrom_below (Nat.le_refl _) (by omega)) (fun _ _ _ _ hs hg _ => Nat.le_trans hs hg.size)) (ownFrom_pure _ _)))
    (fun c => OwnFrom.and (Own.from (boxed_own _ _ fun _ => .bool false) _) (OwnFrom.and (OwnFrom.and (ownFrom_below (Nat.le_refl _) (by omega)) (fun _ _ _ _ hs hg _ => Nat.le_trans hs hg.size)) (ownFrom_pure _ (fun (pre : List (NdIn w.heap.size w)) => c = .ret ∧ preB plainB pre = false))))
    ⟨hbd, ⟨hb0, Nat.le_refl _⟩, rfl⟩
    (fun x a' W => ∃ Bx, W0.heap.size ≤ Bx ∧ W.heap[Bx]? = some (.cells #[x.1.c0, x.1.c1, x.1.c2, x.1.c3, .int .i64 x.1.l] 106 (0, 0)) ∧
      a' = { tmps := #[Value.agg #[c0, c1, c2, c3], Value.pointer (some { block := w.heap.size, off := 0 }), Value.pointer (some { block := w.heap.size + 1, off := 0 }),
          Value.pointer (some { block := Bx, off := 0 }), Value.agg #[c0, c1, c2, c3], .bool true, .bool false, Value.agg #[c0, c1, c2, c3],
          Value.func (Fn.func 104) #[] #[Value.pointer (some { block := w1.heap.size, off := 0 })], x.val, undef, undef, undef, undef, undef, undef, undef, undef, undef, undef, undef, undef, undef, undef, undef, undef], defers := [] })
    (fun x a' s X Y row hs hg hr => by
      obtain ⟨Bx, h1, h2, h3⟩ := hs
      exact ⟨Bx, h1, cells_own Bx 106 (fun _ : Unit => #[x.1.c0, x.1.c1, x.1.c2, x.1.c3, .int .i64 x.1.l]) () X Y row h2 hg (fun r e => (hr r e).2), h3⟩) ?assign ?body ?done ?stop
  case assign =>
    rintro l pre ⟨⟨d0, d1, d2, d3, ⟨k', n', s', as'⟩, lv⟩, hx, hlv⟩ W K ⟨hi1, ⟨hi2, hiz⟩, hi3⟩ hK
    have hx0 := hx
    simp only [IsTm] at hx
    obtain ⟨rfl, _, rfl, _, rfl, _, a', cap', rfl, _, _⟩ := hx
    have hK' := hK _ _ ((KeepsOthers.alloc _ _).from _) ((Kept.refl _ _ W).alloc (by omega) (.cells #[.int .u8 k', .int .i64 n', .string s', .slice a' as'.length cap', .int .i64 lv] 106)) ⟨hi1.alloc _, ⟨hi2.alloc (by omega) _, by simp; omega⟩, hi3⟩ ⟨W.heap.size, hiz, World.alloc_heap_new _ _, rfl⟩
    clear hK
    have HK := Lib.hid hK'; clear hK' hi3
    simp only [NdIn.val]
    gi_wp2
    exact HK.out
  case body =>
    rintro l pre ⟨⟨d0, d1, d2, d3, ⟨k', n', s', as'⟩, lv⟩, hx, hlv⟩ a' W hl hrec ⟨hi1, ⟨hi2, hiz⟩, hi3⟩ ⟨Bx, hBx, hbx, rfl⟩ hlt
    have hx0 := hx
    simp only [IsTm] at hx
    obtain ⟨rfl, _, rfl, _, rfl, _, a', cap', rfl, _, _⟩ := hx
    simp only at hbx hlv
    have q0 := cells_at hbx 0 _ rfl
    have qd := hi1.cell
    have qf := hi1.frozen
    have HI := Lib.hid hi3; clear hi3
    have hv : ∀ b, plainB (.mk k' n' s' as', lv) = b → preB plainB (pre ++ [(⟨⟨.int .u8 k', .int .i64 n', .string s', .slice a' as'.length cap', .mk k' n' s' as', lv⟩, hx0, hlv⟩ : NdIn w.heap.size w)]) = b := by
      intro b hb
      have hI := HI.out
      unfold preB at hI ⊢
      rw [List.all_append, hI]; simp only [List.all_cons, List.all_nil, NdIn.key, hb, Bool.true_and, Bool.and_true]
    have HV := Lib.hid hv; clear hv
    have hp : plainB (.mk k' n' s' as', lv) = (decide (k' = 1) || decide (k' = 2) || decide (k' = 4)) := rfl
    have HP := Lib.hid hp; clear hp
    have hcs : k' = 1 ∨ k' = 2 ∨ k' = 4 ∨ (k' ≠ 1 ∧ k' ≠ 2 ∧ k' ≠ 4) := by omega
    rcases hcs with rfl | rfl | rfl | ⟨hk1, hk2, hk4⟩
    · have HQ := Lib.hid (HV.out true (by rw [HP.out]; rfl))
      gi_wp2
      exact ⟨(KeepsOthers.refl _).from _, Kept.refl _ _ _, hi1, ⟨hi2, by omega⟩, HQ.out⟩
    · have HQ := Lib.hid (HV.out true (by rw [HP.out]; rfl))
      gi_wp2
      exact ⟨(KeepsOthers.refl _).from _, Kept.refl _ _ _, hi1, ⟨hi2, by omega⟩, HQ.out⟩
    · have HQ := Lib.hid (HV.out true (by rw [HP.out]; rfl))
      gi_wp2
      exact ⟨(KeepsOthers.refl _).from _, Kept.refl _ _ _, hi1, ⟨hi2, by omega⟩, HQ.out⟩
    · have HQ := Lib.hid (HV.out false (by rw [HP.out]; simp [hk1, hk2, hk4]))
      have e1 : (k' != 1) = true := by simpa using hk1
      have e2 : (k' != 2) = true := by simpa using hk2
      have e4 : (k' != 4) = true := by simpa using hk4
      clear hk1 hk2 hk4
      gi_wp2
      exact ⟨(KeepsOthers.setCell _ _ _).from _, hi1.set _, ⟨hi2.setCell (p := ⟨w.heap.size + 1, 0, none⟩) (by simp) _, by simp; omega⟩, rfl, HQ.out⟩
  case done =>
    rintro D ys W hD hys ⟨hbx, ⟨hB, hz⟩, hall⟩ hK
    have hc := hbx.cell
    have hf := hbx.frozen
    have HE := Lib.hid (all_of_pre (p := plainB) hys hall); clear hys hall
    have hK' := (KeepsOthers.setCell W ⟨w.heap.size + 1, 0, none⟩ (.bool true)).same D _ hK rfl
    have hc5 := cell_kept (World.cell?_setCell_same' W ⟨w.heap.size + 1, 0, none⟩ (.bool true) (by rw [hc]; rfl)) (grownBy_putObj' _ D (.deferred none)) (fun r e => by cases e; exact ⟨_, hK', rfl⟩)
    have HC := Lib.hid hc5; clear hc5
    gi_wp2
    refine ⟨by simp, .inl ⟨_, _, rfl, run_takeDeferred hK', ?_⟩⟩
    have hc5 := HC.out
    refine ⟨.bool true, ?_, by rw [HG.out, HE.out, HVD.out]; rfl, ?_⟩
    · simp [results, Tryz.f30, go_sem, hc5]
    · exact (hB.setCell (p := ⟨w.heap.size + 1, 0, none⟩) (by simp) _).trans (belowK_b (w := w) (Nat.le_refl _) _ D _ _ (by omega) hK' rfl rfl)
  case stop =>
    rintro D c pre W hD hys ⟨hbx, ⟨hB, hz⟩, rfl, hall⟩ hK
    have hc := hbx.cell
    have hf := hbx.frozen
    have HE := Lib.hid (not_all_of_pre (p := plainB) hys hall); clear hys hall
    have hc5 := cell_kept hc (grownBy_putObj' _ D (.deferred none)) (fun r e => by cases e; exact ⟨_, hK, rfl⟩)
    have HC := Lib.hid hc5; clear hc5
    gi_wp2
    refine ⟨by simp, .inl ⟨_, _, rfl, run_takeDeferred hK, ?_⟩⟩
    have hc5 := HC.out
    refine ⟨.bool false, ?_, by rw [HG.out, HE.out, HVD.out]; rfl, ?_⟩
    · simp [results, Tryz.f30, go_sem, hc5]
    · exact hB.trans (belowK_b (w := w) (Nat.le_refl _) _ D _ _ (by omega) hK rfl rfl)

theorem value_any (t : Tm) (c0 c1 c2 c3 : Value) (w : World) (ht : IsTm w.heap.size w c0 c1 c2 c3 t) (hdep : t.depth < 4611686018427387900) :
    Calls Tryz.prog 30 #[.agg #[c0, c1, c2, c3]] w fun e w' => e = .returned (.bool t.valueB) ∧ Below w.heap.size w w' :=
  callsIn_wide.1 (value_in t c0 c1 c2 c3 w ht hdep)
end Go.Proofs.YtcoieohbmkjpoaaGreatDoor
namespace Go.Proofs.YtcoieohbmkjpoaaGreatDoor
open Go.RowKit Go.Shelf
attribute [local go_sem] Oper.semAt_some

/-- An atom: its predicate's name, its arguments. -/
abbrev Ato := ByteArray × List Tm
def cntA (x : Ato) : Nat := 1 + Tm.countL x.2
def validA (x : Ato) : Bool := symbolB x.1 && decide (x.2.length ≤ 8) && x.2.all Tm.valueB
/-- The two cells hold the atom; all that they lead to lies in blocks of S. -/
def AtS (S : Nat → Prop) (w : World) (v0 v1 : Value) (x : Ato) : Prop := v0 = .string x.1 ∧ x.1.size ≤ maxLen ∧ ∃ (a : Option Addr) (cap : Nat), v1 = .slice a x.2.length cap ∧ x.2.length ≤ maxLen ∧ (x.2 ≠ [] → ∃ b off, a = some ⟨b, off, none⟩ ∧ S b ∧ TmsS S w b off x.2)
theorem AtS.same {S S' : Nat → Prop} {w w' : World} {v0 v1 : Value} {x : Ato} (h : AtS S w v0 v1 x) (hS : ∀ b, S b → S' b) (hk : ∀ b, S b → w'.heap[b]? = w.heap[b]?) : AtS S' w' v0 v1 x := by
  obtain ⟨h0, hs, a, cap, h1, hl, hr⟩ := h
  refine ⟨h0, hs, a, cap, h1, hl, fun hne => ?_⟩
  obtain ⟨b, off, ha, hb, hT⟩ := hr hne
  exact ⟨b, off, ha, hS b hb, hT.same hS hk hb⟩
theorem AtS.shape {S : Nat → Prop} {w : World} {v0 v1 : Value} {x : Ato} (h : AtS S w v0 v1 x) : ∃ a cap, v0 = .string x.1 ∧ v1 = .slice a x.2.length cap := by
  obtain ⟨h0, hs, a, cap, h1, _⟩ := h
  exact ⟨a, cap, h0, h1⟩
theorem AtS.below {w w' : World} {v0 v1 : Value} {x : Ato} (h : AtS (fun b => b < w.heap.size) w v0 v1 x) (hb : Below w.heap.size w w') : AtS (fun b => b < w'.heap.size) w' v0 v1 x :=
  h.same (fun _ h => Nat.lt_of_lt_of_le h hb.size) (fun b h => hb.block b h)
theorem AtS.args {w : World} {S : Nat → Prop} {a : Option Addr} {cap n : Nat} {v0 : Value} {x : Ato} (h : AtS S w v0 (.slice a n cap) x) (hS : ∀ b, S b → b < w.heap.size) : x.2 ≠ [] → ∃ b off, a = some ⟨b, off, none⟩ ∧ b < w.heap.size ∧ IsTms w.heap.size w b off x.2 := by
  obtain ⟨_, _, a', cap', e, _, hr⟩ := h
  cases e
  intro hne
  obtain ⟨b, off, ha, hb, hT⟩ := hr hne
  exact ⟨b, off, ha, hS b hb, hT.toIs hS⟩
theorem cells2 {W : World} {b : Nat} {v0 v1 : Value} {t : TypeId} (h : W.heap[b]? = some (.cells #[v0, v1] t (0, 0))) : W.cell? ⟨b, 0, none⟩ = some v0 ∧ W.cell? ⟨b, 1, none⟩ = some v1 := ⟨cells_at h 0 _ rfl, cells_at h 1 _ rfl⟩
set_option maxRecDepth 100000 in
set_option maxHeartbeats 2000000 in
theorem cloneAtom_any (x : Ato) (a : Option Addr) (cap : Nat) (S : Nat → Prop) (w : World) (h : AtS S w (.string x.1) (.slice a x.2.length cap) x) (hS : ∀ b, S b → b < w.heap.size) (hcnt : cntA x ≤ 1000000) :
    Calls Tryz.prog 55 #[.agg #[.string x.1, .slice a x.2.length cap]] w fun e w' => ∃ a' cap', e = .returned (.agg #[.string x.1, .slice a' x.2.length cap']) ∧ Below w.heap.size w w' ∧ AtS (NewS w w') w' (.string x.1) (.slice a' x.2.length cap') x := by
  obtain ⟨p, us⟩ := x
  have hr := h.args hS
  obtain ⟨_, hs, _, _, _, hl, _⟩ := h
  simp only at hs hl hr
  have hcl : Tm.countL us ≤ 1000000 := by simp only [cntA] at hcnt; omega
  obtain ⟨W0, hW0⟩ : ∃ W0, (w.alloc (.cells #[.string p, .slice a us.length cap] 24)).alloc (.cells #[.string ⟨#[]⟩, .slice none 0 0] 24) = W0 := ⟨_, rfl⟩
  have hB : Below w.heap.size w W0 := by rw [← hW0]; exact ((Below.refl _ w).alloc (Nat.le_refl _) _).alloc (by simp) _
  have hsz : W0.heap.size = w.heap.size + 2 := by rw [← hW0]; simp
  have hR0 : W0.heap[w.heap.size]? = some (.cells #[.string p, .slice a us.length cap] 24 (0, 0)) := by
    rw [← hW0]; exact (Below.heap_alloc _ _ _ (by simp)).trans (World.alloc_heap_new _ _)
  have hR1 : W0.heap[w.heap.size + 1]? = some (.cells #[.string ⟨#[]⟩, .slice none 0 0] 24 (0, 0)) := by
    rw [← hW0]; have := World.alloc_heap_new (w.alloc (.cells #[.string p, .slice a us.length cap] 24)) (.cells #[.string ⟨#[]⟩, .slice none 0 0] 24); rwa [World.size_alloc] at this
  have hcall := collectT_any us (fun t _ => clone_any t) a cap W0 (fun hne => by
    obtain ⟨b, off, ha, hb, hi⟩ := hr hne
    exact ⟨b, off, ha, by omega, (hi.below hB hb).mono hB.size⟩) hcl
  have x1 := cells_at hR0 1 _ rfl
  have HC := Lib.hid hcall
  have HB := Lib.hid hB
  have HSZ := Lib.hid hsz
  have HR0 := Lib.hid hR0
  have HR1 := Lib.hid hR1
  clear hcall hB hsz hR0 hR1 hr hcl hcnt
  go_enter Tryz.func55, Tryz.ntmps55
  go_wp2_with (go_at_call 87; refine HC.out.mono ?_; clear HC x1)
  rintro e w1 v rfl hrow hb1
  obtain ⟨a2, cap2, rfl, hargs⟩ := RowCl.args hrow hl
  have hsz1 := hb1.size
  have hsz0 := HSZ.out
  have q0 := (hb1.block w.heap.size (by omega)).trans HR0.out
  have q1 := (hb1.block (w.heap.size + 1) (by omega)).trans HR1.out
  have x0 := cells_at q0 0 _ rfl
  have x1 := cells_at q0 1 _ rfl
  have p1 := frozen_of_row w1 w.heap.size 1 _ _ q0
  have r0 := cells_at q1 0 _ rfl
  have r1 := cells_at q1 1 _ rfl
  have f0 := frozen_of_row w1 (w.heap.size + 1) 0 _ _ q1
  have f1 := frozen_of_row w1 (w.heap.size + 1) 1 _ _ q1
  have HA := Lib.hid hargs
  have HB1 := Lib.hid (HB.out.trans (hb1.mono HB.out.size))
  have HZ := Lib.hid (show w.heap.size + 2 ≤ w1.heap.size by omega)
  clear hargs hrow hb1 hsz1 hsz0 q0 q1
  go_wp2
  obtain ⟨W, hW⟩ : ∃ W, (((w1.setCell ⟨w.heap.size, 1, none⟩ (.slice a2 us.length cap2)).setCell ⟨w.heap.size + 1, 0, none⟩ (.string p)).setCell ⟨w.heap.size + 1, 1, none⟩ (.slice a2 us.length cap2)) = W := ⟨_, rfl⟩
  have hres : ∀ b, W0.heap.size ≤ b → W.heap[b]? = w1.heap[b]? := by
    intro b hb
    have h1 := HSZ.out
    rw [← hW, heap_setCell_other _ _ _ _ (by simp; omega), heap_setCell_other _ _ _ _ (by simp; omega), heap_setCell_other _ _ _ _ (by simp; omega)]
  have hBW : Below w.heap.size w W := by
    rw [← hW]
    exact ((HB1.out.setCell (p := ⟨w.heap.size, 1, none⟩) (by simp) _).setCell (p := ⟨w.heap.size + 1, 0, none⟩) (by simp) _).setCell (p := ⟨w.heap.size + 1, 1, none⟩) (by simp) _
  have hWs : W.heap.size = w1.heap.size := by rw [← hW]; simp
  refine bodyPost_ret (v := .agg #[.string p, .slice a2 us.length cap2]) (by simp [results, Tryz.f55, go_sem, r0, r1]) rfl ?_
  rw [hW]
  refine ⟨a2, cap2, rfl, hBW, rfl, hs, a2, cap2, rfl, hl, fun hne => ?_⟩
  obtain ⟨b, off, ha, hb, hT⟩ := HA.out hne
  have hz := HSZ.out
  exact ⟨b, off, ha, ⟨by have := hb.1; omega, by have := hb.2; omega⟩, hT.same (fun b h => ⟨by have := h.1; omega, by have := h.2; omega⟩) (fun b h => hres b h.1) hb⟩
set_option maxHeartbeats 1000000 in
theorem of_any (p : ByteArray) (a : Option Addr) (n cap : Nat) (w : World) : Calls Tryz.prog 86 #[.agg #[.string p, .slice a n cap]] w fun e w' => e = .returned (.agg #[.string p, .int .i64 n]) ∧ Below w.heap.size w w' := by
  go_enter Tryz.func86, Tryz.ntmps86
  go_wp2
  refine bodyPost_ret (v := .agg #[.string p, .int .i64 n]) (by simp [results, Tryz.f86, go_sem]) rfl ?_
  exact ⟨rfl, ((Below.refl _ w).alloc (Nat.le_refl _) _).alloc (by simp) _⟩
theorem valid1_any (t : Tm) (c0 c1 c2 c3 : Value) (w : World) (ht : IsTm w.heap.size w c0 c1 c2 c3 t) (hdep : t.depth < 4611686018427387900) :
    Calls Tryz.prog 40 #[.agg #[c0, c1, c2, c3]] w fun e w' => e = .returned (.bool (!t.valueB)) ∧ Below w.heap.size w w' := by
  obtain ⟨k, n, s, a, l, cap, rfl, rfl, rfl, rfl⟩ := ht.cells4
  have hbA : Below w.heap.size w (w.alloc (.cells #[.int .u8 k, .int .i64 n, .string s, .slice a l cap] 46)) := (Below.refl _ _).alloc (Nat.le_refl _) _
  have HV := Lib.hid (value_any t _ _ _ _ _ ((ht.below hbA).mono hbA.size) hdep)
  have HB := Lib.hid hbA
  clear hbA ht
  go_enter Tryz.func40, Tryz.ntmps40
  go_wp2_with (go_at_call 30; refine HV.out.mono ?_)
  rintro e w1 ⟨rfl, hb⟩
  have HB1 := Lib.hid (HB.out.trans (hb.mono HB.out.size))
  clear hb
  go_wp2
  go_ret
  exact ⟨rfl, HB1.out⟩
/-- Some term of the list has the property. -/
def anyT (p : Tm → Bool) (L : List Tm) : Bool := L.any p
theorem anyT_iff {p : Tm → Bool} {L : List Tm} : anyT p L = true ↔ ∃ x ∈ L, p x = true := List.any_eq_true
set_option maxRecDepth 100000 in
set_option maxHeartbeats 2000000 in
theorem indexT_any (ts : List Tm) (a : Option Addr) (cap : Nat) (w : World) (hts : ts ≠ [] → ∃ b off, a = some ⟨b, off, none⟩ ∧ b < w.heap.size ∧ IsTms w.heap.size w b off ts) (hl : Tm.countL ts ≤ 1000000) :
    Calls Tryz.prog 73 #[.slice a ts.length cap, .func (.func 40) #[] #[]] w fun e w' => ∃ k : Int, e = .returned (.int .i64 k) ∧ -1 ≤ k ∧ k ≤ 1000000 ∧ (0 ≤ k ↔ anyT (fun t => !t.valueB) ts = true) ∧ Below w.heap.size w w' := by
  have hlen : ts.length ≤ 1000000 := Nat.le_trans (len_countL' ts) hl
  have HT := Lib.hid hts
  have HL := Lib.hid hl
  clear hts hl
  go_enter Tryz.func73, Tryz.ntmps73
  go_wp2_with fail
  go_loopw [8] (fun i wr => ∃ j : Nat, j ≤ ts.length ∧ i = .int .i64 j ∧ (∀ x ∈ ts.take j, x.valueB = true) ∧ Below w.heap.size w wr) (fun i _ => ts.length - (intOf i).toNat)
  case atStart => exact ⟨0, by omega, by go_num, by simp, Below.refl _ _⟩
  case round =>
    obtain ⟨j, hj, rfl, hno, hbr⟩ := hrel
    have HNO := Lib.hid hno
    have HBR := Lib.hid hbr
    have i1 : (0 : Int) ≤ (j : Int) := by omega
    clear hno hbr
    by_cases hlt : j < ts.length
    · obtain ⟨b, off, rfl, hbw, hI⟩ := HT.out (by intro e; rw [e] at hlt; simp at hlt)
      have hI2 := hI.below HBR.out hbw
      obtain ⟨c0, c1, c2, c3, y0, y1, y2, y3, hc⟩ := hI2.at j hlt
      have hcw := hc.mono HBR.out.size
      have hmem := List.getElem_mem hlt
      have htk := List.take_succ_eq_append_getElem hlt
      have hcnt : (ts[j]).count ≤ 1000000 := Nat.le_trans (count_mem' hmem) HL.out
      obtain ⟨t, ht⟩ : ∃ t, ts[j] = t := ⟨_, rfl⟩
      rw [ht] at hcw hmem htk hcnt
      have HTK := Lib.hid htk
      have HME := Lib.hid hmem
      obtain ⟨k, n, s, ua, ul, uc, rfl, rfl, rfl, rfl⟩ := hcw.cells4
      have i2 : (j : Int) < (ts.length : Int) := by omega
      have HC := Lib.hid (valid1_any t _ _ _ _ wr hcw (by have := Tm.depth_le_count t; omega))
      obtain ⟨q, hq⟩ : ∃ q, t.valueB = q := ⟨_, rfl⟩
      rw [hq] at HC
      have HQ := Lib.hid hq
      clear hI hI2 hc hcw htk hmem hq ht hcnt
      go_wp2_with fail
      refine HC.out.mono ?_
      rintro e w2 ⟨rfl, hb2⟩
      have HB2 := Lib.hid (HBR.out.trans (hb2.mono HBR.out.size))
      clear hb2 y0 y1 y2 y3 HC
      cases q with
      | false =>
        go_wp2
        go_ret
        exact ⟨(j : Int), rfl, by omega, by omega, ⟨fun _ => anyT_iff.2 ⟨t, HME.out, by rw [HQ.out]; rfl⟩, fun _ => by omega⟩, HB2.out⟩
      | true =>
        go_wp2
        go_roundw
        case rel =>
          have hall : ∀ x ∈ ts.take (j + 1), x.valueB = true := by
            intro x hx
            rw [HTK.out] at hx
            rcases List.mem_append.1 hx with hx | hx
            · exact HNO.out x hx
            · rw [List.mem_singleton.1 hx]; exact HQ.out
          exact ⟨j + 1, by omega, by go_num, hall, HB2.out⟩
        case measure => simp [intOf]; omega
    · have i2 : ¬ (j : Int) < (ts.length : Int) := by omega
      have hje : j = ts.length := by omega
      have HALL := Lib.hid (show ∀ x ∈ ts, x.valueB = true by have := HNO.out; rwa [hje, List.take_of_length_le (Nat.le_refl _)] at this)
      go_wp2
      go_ret
      refine ⟨-1, rfl, by omega, by omega, ⟨fun h => absurd h (by decide), fun h => ?_⟩, HBR.out⟩
      obtain ⟨x, hx, h2⟩ := anyT_iff.1 h
      rw [HALL.out x hx] at h2
      cases h2
set_option maxHeartbeats 1000000 in
theorem containsT_any (ts : List Tm) (a : Option Addr) (cap : Nat) (w : World) (hts : ts ≠ [] → ∃ b off, a = some ⟨b, off, none⟩ ∧ b < w.heap.size ∧ IsTms w.heap.size w b off ts) (hl : Tm.countL ts ≤ 1000000) :
    Calls Tryz.prog 39 #[.slice a ts.length cap, .func (.func 40) #[] #[]] w fun e w' => e = .returned (.bool (anyT (fun t => !t.valueB) ts)) ∧ Below w.heap.size w w' := by
  have HI := Lib.hid (indexT_any ts a cap w hts hl)
  clear hts hl
  obtain ⟨q, hq⟩ : ∃ q, anyT (fun t => !t.valueB) ts = q := ⟨_, rfl⟩
  rw [hq] at HI ⊢
  clear hq
  go_enter Tryz.func39, Tryz.ntmps39
  go_wp2_with (go_at_call 73; refine HI.out.mono ?_; rintro e w1 ⟨k, rfl, h1, h2, h3, hb⟩)
  have HB := Lib.hid hb
  clear hb
  cases q with
  | true =>
    have h4 : 0 ≤ k := h3.2 rfl
    clear h3
    go_wp2
    go_ret
    exact ⟨rfl, HB.out⟩
  | false =>
    have h4 : ¬ 0 ≤ k := fun h => by cases h3.1 h
    clear h3
    go_wp2
    go_ret
    exact ⟨rfl, HB.out⟩
theorem all_any : ∀ us : List Tm, us.all Tm.valueB = !anyT (fun t => !t.valueB) us
  | [] => rfl
  | u :: us => by
    have ih := all_any us
    unfold anyT at ih ⊢
    rw [List.all_cons, List.any_cons, ih]
    cases u.valueB <;> rfl
set_option maxRecDepth 100000 in
set_option maxHeartbeats 2000000 in
theorem validA_any (x : Ato) (a : Option Addr) (cap : Nat) (S : Nat → Prop) (w : World) (h : AtS S w (.string x.1) (.slice a x.2.length cap) x) (hS : ∀ b, S b → b < w.heap.size) (hcnt : cntA x ≤ 1000000) :
    Calls Tryz.prog 10 #[.agg #[.string x.1, .slice a x.2.length cap]] w fun e w' => e = .returned (.bool (validA x)) ∧ Below w.heap.size w w' := by
  have hval : validA x = (symbolB x.1 && decide (x.2.length ≤ 8) && x.2.all Tm.valueB) := rfl
  obtain ⟨p, us⟩ := x
  have hr := h.args hS
  obtain ⟨_, hs, _, _, _, hl, _⟩ := h
  try simp only at hs
  try simp only at hl
  try simp only at hr
  try simp only at hval
  have hcl : Tm.countL us ≤ 1000000 := by simp only [cntA] at hcnt; omega
  have hlen : us.length ≤ 1000000 := Nat.le_trans (len_countL' us) hcl
  have hbA : Below w.heap.size w (w.alloc (.cells #[.string p, .slice a us.length cap] 24)) := (Below.refl _ _).alloc (Nat.le_refl _) _
  have hanyall : us.all Tm.valueB = !anyT (fun t => !t.valueB) us := all_any us
  obtain ⟨qv, hqv⟩ : ∃ q, anyT (fun t => !t.valueB) us = q := ⟨_, rfl⟩
  have HC := Lib.hid (containsT_any us a cap _ (fun hne => by obtain ⟨b, off, ha, hb, hi⟩ := hr hne; exact ⟨b, off, ha, Nat.lt_of_lt_of_le hb hbA.size, (hi.below hbA hb).mono hbA.size⟩) hcl)
  rw [hqv] at hanyall HC
  have HSY := Lib.hid (symbol_any p (w.alloc (.cells #[.string p, .slice a us.length cap] 24)) hs)
  obtain ⟨qs, hqs⟩ : ∃ q, symbolB p = q := ⟨_, rfl⟩
  rw [hqs] at hval HSY
  rw [hanyall] at hval
  have HVA := Lib.hid hval
  have HB := Lib.hid hbA
  clear hval hbA hr hcnt hcl hqv hqs hanyall
  go_enter Tryz.func10, Tryz.ntmps10
  cases qs with
  | false =>
    go_wp2_with (go_at_call 38; refine HSY.out.mono ?_; rintro e w1 ⟨rfl, rfl⟩)
    go_ret
    exact ⟨by rw [HVA.out]; rfl, HB.out⟩
  | true =>
    by_cases h8 : us.length ≤ 8
    · have i8 : ¬ (8 : Int) < (us.length : Int) := by omega
      go_wp2_with (first | (go_at_call 38; refine HSY.out.mono ?_; rintro e w1 ⟨rfl, rfl⟩) | (go_at_call 39; refine HC.out.mono ?_; rintro e w1 ⟨rfl, hb1⟩; have HB1 := Lib.hid (HB.out.trans (hb1.mono HB.out.size)); clear hb1))
      go_ret
      exact ⟨by rw [HVA.out]; simp [h8], HB1.out⟩
    · have i8 : (8 : Int) < (us.length : Int) := by omega
      go_wp2_with (go_at_call 38; refine HSY.out.mono ?_; rintro e w1 ⟨rfl, rfl⟩)
      go_ret
      exact ⟨by rw [HVA.out]; simp [h8], HB.out⟩
end Go.Proofs.YtcoieohbmkjpoaaGreatDoor
namespace Go.Proofs.YtcoieohbmkjpoaaGreatDoor
open Go.RowKit

/-! ### A reader -/
def opP (c : UInt8) : Bool := c == 42 || c == 47 || c == 92
def opS (c : UInt8) : Bool := c == 43 || c == 45
def nameT (l : List UInt8) : Tm := .mk (if symbolB ⟨l.toArray⟩ then 2 else 3) 0 ⟨l.toArray⟩ []
def dots : List UInt8 → Option (List UInt8)
  | a :: b :: r => if a = 46 ∧ b = 46 then some r else none
  | _ => none
/-- What stands behind a minus sign: a number's digits, or what has been read there. -/
def minusT (r : List UInt8) (q : Option (Tm × List UInt8)) : Option (Tm × List UInt8) := match r with
  | [] => none
  | d :: r' => if dig d then some (.mk 1 (-(dval ((d :: r').takeWhile dig) : Int)) ⟨#[]⟩ [], (d :: r').dropWhile dig)
    else match q with
      | some (x, q') => some (.mk 5 0 ⟨#[45]⟩ [x], q')
      | none => none
theorem minusT_none {r : List UInt8} {v : Tm × List UInt8} (h : minusT r none = some v) (q : Option (Tm × List UInt8)) : minusT r q = some v := by
  cases r with
  | nil => cases h
  | cons d r' =>
    unfold minusT at h ⊢
    by_cases h2 : dig d = true
    · simp only [h2, if_true] at h ⊢; exact h
    · simp only [h2] at h; cases h
mutual
def rdF : Nat → List UInt8 → Option (Tm × List UInt8)
  | 0, _ => none
  | _ + 1, [] => none
  | f + 1, c :: r =>
    if c = 45 then minusT r (rdF f r)
    else if c = 40 then (match rdI f r with
      | some (x, d :: q) => if d = 41 then some (x, q) else none
      | _ => none)
    else if dig c then some (.mk 1 (dval ((c :: r).takeWhile dig) : Int) ⟨#[]⟩ [], (c :: r).dropWhile dig)
    else if wrd c then (match (c :: r).dropWhile wrd with
      | d :: q => if d = 40 then (match rdA f q with
          | some (xs, q') => some (.mk 4 0 ⟨((c :: r).takeWhile wrd).toArray⟩ xs, q')
          | none => none)
        else some (nameT ((c :: r).takeWhile wrd), d :: q)
      | [] => some (nameT ((c :: r).takeWhile wrd), []))
    else none
def rdP : Nat → List UInt8 → Option (Tm × List UInt8)
  | 0, _ => none
  | f + 1, l => match rdF f l with
    | some (x, q) => rdPL f x q
    | none => none
def rdPL : Nat → Tm → List UInt8 → Option (Tm × List UInt8)
  | 0, _, _ => none
  | _ + 1, x, [] => some (x, [])
  | f + 1, x, c :: r => if opP c then (match rdF f r with
      | some (y, q) => rdPL f (.mk 5 0 ⟨#[c]⟩ [x, y]) q
      | none => none) else some (x, c :: r)
def rdS : Nat → List UInt8 → Option (Tm × List UInt8)
  | 0, _ => none
  | f + 1, l => match rdP f l with
    | some (x, q) => rdSL f x q
    | none => none
def rdSL : Nat → Tm → List UInt8 → Option (Tm × List UInt8)
  | 0, _, _ => none
  | _ + 1, x, [] => some (x, [])
  | f + 1, x, c :: r => if opS c then (match rdP f r with
      | some (y, q) => rdSL f (.mk 5 0 ⟨#[c]⟩ [x, y]) q
      | none => none) else some (x, c :: r)
def rdI : Nat → List UInt8 → Option (Tm × List UInt8)
  | 0, _ => none
  | f + 1, l => match rdS f l with
    | some (x, q) => (match dots q with
      | some q' => (match rdS f q' with
        | some (y, q'') => some (.mk 6 0 ⟨#[]⟩ [x, y], q'')
        | none => none)
      | none => some (x, q))
    | none => none
def rdA : Nat → List UInt8 → Option (List Tm × List UInt8)
  | 0, _ => none
  | f + 1, l => match rdI f l with
    | some (x, d :: q) => if d = 44 then (match rdA f q with
        | some (xs, q') => some (x :: xs, q')
        | none => none)
      else if d = 41 then some ([x], q) else none
    | _ => none
end

/-- More fuel does no harm. -/
structure Mono (f : Nat) : Prop where
  F : ∀ l v, rdF f l = some v → rdF (f + 1) l = some v
  P : ∀ l v, rdP f l = some v → rdP (f + 1) l = some v
  PL : ∀ x l v, rdPL f x l = some v → rdPL (f + 1) x l = some v
  S : ∀ l v, rdS f l = some v → rdS (f + 1) l = some v
  SL : ∀ x l v, rdSL f x l = some v → rdSL (f + 1) x l = some v
  I : ∀ l v, rdI f l = some v → rdI (f + 1) l = some v
  A : ∀ l v, rdA f l = some v → rdA (f + 1) l = some v
theorem mono : ∀ f, Mono f
  | 0 => ⟨fun l v h => by simp [rdF] at h, fun l v h => by simp [rdP] at h, fun x l v h => by simp [rdPL] at h, fun l v h => by simp [rdS] at h, fun x l v h => by simp [rdSL] at h, fun l v h => by simp [rdI] at h, fun l v h => by simp [rdA] at h⟩
  | f + 1 => by
    have ih := mono f
    refine ⟨fun l v h => ?_, fun l v h => ?_, fun x l v h => ?_, fun l v h => ?_, fun x l v h => ?_, fun l v h => ?_, fun l v h => ?_⟩
    · cases l with
      | nil => simp [rdF] at h
      | cons c r =>
        rw [rdF] at h ⊢
        by_cases h1 : c = 45
        · rw [if_pos h1] at h ⊢
          cases hF : rdF f r with
          | none => rw [hF] at h; exact minusT_none h _
          | some p => rw [hF] at h; rw [ih.F _ _ hF]; exact h
        · rw [if_neg h1] at h ⊢
          by_cases h2 : c = 40
          · rw [if_pos h2] at h ⊢
            cases hI : rdI f r with
            | none => rw [hI] at h; cases h
            | some p => rw [hI] at h; rw [ih.I _ _ hI]; exact h
          · rw [if_neg h2] at h ⊢
            by_cases h3 : dig c = true
            · rw [if_pos h3] at h ⊢; exact h
            · rw [if_neg h3] at h ⊢
              by_cases h4 : wrd c = true
              · rw [if_pos h4] at h ⊢
                cases hd : (c :: r).dropWhile wrd with
                | nil => rw [hd] at h; exact h
                | cons d q =>
                  rw [hd] at h
                  simp only [] at h ⊢
                  by_cases h5 : d = 40
                  · rw [if_pos h5] at h ⊢
                    cases hA : rdA f q with
                    | none => rw [hA] at h; cases h
                    | some p => rw [hA] at h; rw [ih.A _ _ hA]; exact h
                  · rw [if_neg h5] at h ⊢; exact h
              · rw [if_neg h4] at h; cases h
    · rw [rdP] at h ⊢
      cases hF : rdF f l with
      | none => rw [hF] at h; cases h
      | some p => rw [hF] at h; rw [ih.F _ _ hF]; exact ih.PL _ _ _ h
    · cases l with
      | nil => rw [rdPL] at h ⊢; exact h
      | cons c r =>
        rw [rdPL] at h ⊢
        by_cases h1 : opP c = true
        · rw [if_pos h1] at h ⊢
          cases hF : rdF f r with
          | none => rw [hF] at h; cases h
          | some p => rw [hF] at h; rw [ih.F _ _ hF]; exact ih.PL _ _ _ h
        · rw [if_neg h1] at h ⊢; exact h
    · rw [rdS] at h ⊢
      cases hF : rdP f l with
      | none => rw [hF] at h; cases h
      | some p => rw [hF] at h; rw [ih.P _ _ hF]; exact ih.SL _ _ _ h
    · cases l with
      | nil => rw [rdSL] at h ⊢; exact h
      | cons c r =>
        rw [rdSL] at h ⊢
        by_cases h1 : opS c = true
        · rw [if_pos h1] at h ⊢
          cases hF : rdP f r with
          | none => rw [hF] at h; cases h
          | some p => rw [hF] at h; rw [ih.P _ _ hF]; exact ih.SL _ _ _ h
        · rw [if_neg h1] at h ⊢; exact h
    · rw [rdI] at h ⊢
      cases hS : rdS f l with
      | none => rw [hS] at h; cases h
      | some p =>
        rw [hS] at h; rw [ih.S _ _ hS]
        simp only [] at h ⊢
        cases hd : dots p.2 with
        | none => rw [hd] at h; exact h
        | some q =>
          rw [hd] at h
          simp only [] at h ⊢
          cases hS2 : rdS f q with
          | none => rw [hS2] at h; cases h
          | some p2 => rw [hS2] at h; rw [ih.S _ _ hS2]; exact h
    · rw [rdA] at h ⊢
      cases hI : rdI f l with
      | none => rw [hI] at h; cases h
      | some p =>
        obtain ⟨x, q⟩ := p
        rw [hI] at h; rw [ih.I _ _ hI]
        cases q with
        | nil => cases h
        | cons d q =>
          simp only [] at h ⊢
          by_cases h1 : d = 44
          · rw [if_pos h1] at h ⊢
            cases hA : rdA f q with
            | none => rw [hA] at h; cases h
            | some p2 => rw [hA] at h; rw [ih.A _ _ hA]; exact h
          · rw [if_neg h1] at h ⊢; exact h
theorem up_F {f : Nat} {l : List UInt8} {v} (h : rdF f l = some v) : ∀ d, rdF (f + d) l = some v
  | 0 => h
  | d + 1 => (mono (f + d)).F _ _ (up_F h d)
theorem up_P {f : Nat} {l : List UInt8} {v} (h : rdP f l = some v) : ∀ d, rdP (f + d) l = some v
  | 0 => h
  | d + 1 => (mono (f + d)).P _ _ (up_P h d)
theorem up_PL {f : Nat} {x : Tm} {l : List UInt8} {v} (h : rdPL f x l = some v) : ∀ d, rdPL (f + d) x l = some v
  | 0 => h
  | d + 1 => (mono (f + d)).PL _ _ _ (up_PL h d)
theorem up_S {f : Nat} {l : List UInt8} {v} (h : rdS f l = some v) : ∀ d, rdS (f + d) l = some v
  | 0 => h
  | d + 1 => (mono (f + d)).S _ _ (up_S h d)
theorem up_SL {f : Nat} {x : Tm} {l : List UInt8} {v} (h : rdSL f x l = some v) : ∀ d, rdSL (f + d) x l = some v
  | 0 => h
  | d + 1 => (mono (f + d)).SL _ _ _ (up_SL h d)
theorem up_I {f : Nat} {l : List UInt8} {v} (h : rdI f l = some v) : ∀ d, rdI (f + d) l = some v
  | 0 => h
  | d + 1 => (mono (f + d)).I _ _ (up_I h d)
theorem up_A {f : Nat} {l : List UInt8} {v} (h : rdA f l = some v) : ∀ d, rdA (f + d) l = some v
  | 0 => h
  | d + 1 => (mono (f + d)).A _ _ (up_A h d)

/-! ### What may follow -/
def stopC (c : UInt8) : Bool := c == 43 || c == 45 || c == 42 || c == 47 || c == 92 || c == 41 || c == 44 || c == 46
def stopS (c : UInt8) : Bool := c == 43 || c == 45 || c == 41 || c == 44 || c == 46
def stopI (c : UInt8) : Bool := c == 41 || c == 44
def Follow (p : UInt8 → Bool) (l : List UInt8) : Prop := l = [] ∨ ∃ c r, l = c :: r ∧ p c = true
theorem Follow.imp {p q : UInt8 → Bool} (h : ∀ c, p c = true → q c = true) {l : List UInt8} (hl : Follow p l) : Follow q l := by
  rcases hl with h1 | ⟨c, r, h1, h2⟩
  · exact .inl h1
  · exact .inr ⟨c, r, h1, h c h2⟩
theorem stop_cases {c : UInt8} (h : stopC c = true) : c = 43 ∨ c = 45 ∨ c = 42 ∨ c = 47 ∨ c = 92 ∨ c = 41 ∨ c = 44 ∨ c = 46 := by
  unfold stopC at h
  simp only [Bool.or_eq_true, beq_iff_eq] at h
  rcases h with ((((((h | h) | h) | h) | h) | h) | h) | h
  · exact .inl h
  · exact .inr (.inl h)
  · exact .inr (.inr (.inl h))
  · exact .inr (.inr (.inr (.inl h)))
  · exact .inr (.inr (.inr (.inr (.inl h))))
  · exact .inr (.inr (.inr (.inr (.inr (.inl h)))))
  · exact .inr (.inr (.inr (.inr (.inr (.inr (.inl h))))))
  · exact .inr (.inr (.inr (.inr (.inr (.inr (.inr h))))))
theorem stop_wrd {c : UInt8} (h : stopC c = true) : wrd c = false ∧ dig c = false ∧ c ≠ 40 := by
  rcases stop_cases h with rfl | rfl | rfl | rfl | rfl | rfl | rfl | rfl <;> exact ⟨by decide +kernel, by decide +kernel, by decide⟩
theorem stopS_C (c : UInt8) (h : stopS c = true) : stopC c = true := by
  unfold stopS at h
  simp only [Bool.or_eq_true, beq_iff_eq] at h
  rcases h with (((rfl | rfl) | rfl) | rfl) | rfl <;> rfl
theorem stopS_P (c : UInt8) (h : stopS c = true) : opP c = false := by
  unfold stopS at h
  simp only [Bool.or_eq_true, beq_iff_eq] at h
  rcases h with (((rfl | rfl) | rfl) | rfl) | rfl <;> rfl
theorem stopI_S (c : UInt8) (h : stopI c = true) : stopS c = true ∧ opS c = false := by
  unfold stopI at h
  simp only [Bool.or_eq_true, beq_iff_eq] at h
  rcases h with rfl | rfl <;> exact ⟨rfl, rfl⟩
theorem follow_run {p : UInt8 → Bool} (hp : ∀ c, stopC c = true → p c = false) {rest : List UInt8} (h : Follow stopC rest) : rest = [] ∨ ∃ c r, rest = c :: r ∧ p c = false := by
  rcases h with h | ⟨c, r, h1, h2⟩
  · exact .inl h
  · exact .inr ⟨c, r, h1, hp c h2⟩
theorem stay_P {x : Tm} {rest : List UInt8} (h : Follow stopS rest) : rdPL 1 x rest = some (x, rest) := by
  rcases h with rfl | ⟨c, r, rfl, h⟩
  · rfl
  · rw [rdPL, if_neg (by rw [stopS_P c h]; simp)]
theorem stay_S {x : Tm} {c : UInt8} {r : List UInt8} (h : opS c = false) : rdSL 1 x (c :: r) = some (x, c :: r) := by
  rw [rdSL, if_neg (by rw [h]; simp)]
theorem stay_SI {x : Tm} {rest : List UInt8} (h : Follow stopI rest) : rdSL 1 x rest = some (x, rest) := by
  rcases h with rfl | ⟨c, r, rfl, h⟩
  · rfl
  · exact stay_S (stopI_S c h).2
theorem no_dots {rest : List UInt8} (h : Follow stopI rest) : dots rest = none := by
  rcases h with rfl | ⟨c, r, rfl, h⟩
  · rfl
  · cases r with
    | nil => rfl
    | cons d q =>
      have hc : ¬ (c = 46 ∧ d = 46) := by
        rintro ⟨rfl, _⟩
        cases h
      simp only [dots, hc, if_false]
end Go.Proofs.YtcoieohbmkjpoaaGreatDoor
namespace Go.Proofs.YtcoieohbmkjpoaaGreatDoor
open Go.RowKit

mutual
def Tm.rq : Tm → Bool
  | .mk k n s us => reqB k n s us.length && Tm.rqL us
def Tm.rqL : List Tm → Bool
  | [] => true
  | t :: ts => Tm.rq t && Tm.rqL ts
end
mutual
theorem rq_of (l : Nat) : ∀ t : Tm, (t.nodes l).all nodeOkB = true → t.rq = true
  | .mk k n s us, h => by
    simp only [Tm.nodes, List.all_cons, Bool.and_eq_true] at h
    simp only [Tm.rq, Bool.and_eq_true]
    refine ⟨?_, rqL_of (l + 1) us h.2⟩
    have h1 := h.1
    unfold nodeOkB at h1
    rw [Bool.and_eq_true] at h1
    exact h1.2
theorem rqL_of (l : Nat) : ∀ ts : List Tm, (Tm.nodesL l ts).all nodeOkB = true → Tm.rqL ts = true
  | [], _ => rfl
  | t :: ts, h => by
    simp only [Tm.nodesL, List.all_append, Bool.and_eq_true] at h
    simp only [Tm.rqL, Bool.and_eq_true]
    exact ⟨rq_of l t h.1, rqL_of l ts h.2⟩
end
theorem rqL_mem : ∀ {ts : List Tm} {t : Tm}, Tm.rqL ts = true → t ∈ ts → t.rq = true
  | x :: ts, t, h, hm => by
    simp only [Tm.rqL, Bool.and_eq_true] at h
    rcases List.mem_cons.1 hm with h1 | h1
    · rw [h1]; exact h.1
    · exact rqL_mem h.2 h1

/-! ### The levels of the grammar -/
def facB : Tm → Bool
  | .mk k _ _ us => k == 1 || k == 2 || k == 3 || k == 4 || (k == 5 && us.length == 1)
def prodB : Tm → Bool
  | .mk k _ s us => k == 5 && us.length == 2 && !(s.toList == [43] || s.toList == [45])
def sumB : Tm → Bool
  | .mk k _ s us => k == 5 && us.length == 2 && (s.toList == [43] || s.toList == [45])
def rngB : Tm → Bool
  | .mk k _ _ _ => k == 6
def opT (o : Int) (i : Nat) (x : Tm) : List UInt8 := if enclosedB o i x then 40 :: (x.text ++ [41]) else x.text

structure Reads (t : Tm) : Prop where
  F : facB t = true → ∀ rest, Follow stopC rest → ∃ g, rdF g (t.text ++ rest) = some (t, rest)
  P : (facB t || prodB t) = true → ∀ rest f v, Follow stopC rest → rdPL f t rest = some v → ∃ g, rdP g (t.text ++ rest) = some v
  S : rngB t = false → ∀ rest f v, Follow stopS rest → rdSL f t rest = some v → ∃ g, rdS g (t.text ++ rest) = some v
  I : ∀ rest, Follow stopI rest → ∃ g, rdI g (t.text ++ rest) = some (t, rest)
  H : facB t = true → t.kind ≠ 1 → ∃ d q, t.text = d :: q ∧ dig d = false

theorem P_of_F {l rest : List UInt8} {t : Tm} {f : Nat} {v : Tm × List UInt8} (hF : ∃ g, rdF g l = some (t, rest)) (hv : rdPL f t rest = some v) : ∃ g, rdP g l = some v := by
  obtain ⟨g, hg⟩ := hF
  refine ⟨g + f + 1, ?_⟩
  rw [rdP, up_F hg f]
  have h := up_PL hv g
  rw [Nat.add_comm] at h
  exact h
theorem S_of_P {l rest : List UInt8} {t : Tm} {f : Nat} {v : Tm × List UInt8} (hP : ∃ g, rdP g l = some (t, rest)) (hv : rdSL f t rest = some v) : ∃ g, rdS g l = some v := by
  obtain ⟨g, hg⟩ := hP
  refine ⟨g + f + 1, ?_⟩
  rw [rdS, up_P hg f]
  have h := up_SL hv g
  rw [Nat.add_comm] at h
  exact h
theorem I_of_S {l rest : List UInt8} {t : Tm} (hS : ∃ g, rdS g l = some (t, rest)) (hd : dots rest = none) : ∃ g, rdI g l = some (t, rest) := by
  obtain ⟨g, hg⟩ := hS
  refine ⟨g + 1, ?_⟩
  rw [rdI, hg]
  simp only [hd]
theorem enc {l rest : List UInt8} {x : Tm} (h : ∃ g, rdI g (l ++ 41 :: rest) = some (x, 41 :: rest)) : ∃ g, rdF g (40 :: (l ++ 41 :: rest)) = some (x, rest) := by
  obtain ⟨g, hg⟩ := h
  refine ⟨g + 1, ?_⟩
  rw [rdF, if_neg (by decide), if_pos rfl, hg]
  simp only [if_true]

theorem fac_reads {t : Tm} (F : ∀ rest, Follow stopC rest → ∃ g, rdF g (t.text ++ rest) = some (t, rest)) (H : t.kind ≠ 1 → ∃ d q, t.text = d :: q ∧ dig d = false) : Reads t where
  F := fun _ => F
  P := fun _ rest _f _v hr hv => P_of_F (F rest hr) hv
  S := fun _ rest _f _v hr hv => S_of_P (P_of_F (F rest (hr.imp stopS_C)) (stay_P hr)) hv
  I := fun rest hr => I_of_S (S_of_P (P_of_F (F rest (hr.imp fun c h => stopS_C c (stopI_S c h).1)) (stay_P (hr.imp fun c h => (stopI_S c h).1))) (stay_SI hr)) (no_dots hr)
  H := fun _ => H
theorem prod_reads {t : Tm} (hf : facB t = false) (P : ∀ rest f v, Follow stopC rest → rdPL f t rest = some v → ∃ g, rdP g (t.text ++ rest) = some v) : Reads t where
  F := fun h => by rw [hf] at h; cases h
  P := fun _ => P
  S := fun _ rest f v hr hv => S_of_P (P rest 1 _ (hr.imp stopS_C) (stay_P hr)) hv
  I := fun rest hr => I_of_S (S_of_P (P rest 1 _ (hr.imp fun c h => stopS_C c (stopI_S c h).1) (stay_P (hr.imp fun c h => (stopI_S c h).1))) (stay_SI hr)) (no_dots hr)
  H := fun h => by rw [hf] at h; cases h
theorem sum_reads {t : Tm} (hf : facB t = false) (hp : prodB t = false) (S : ∀ rest f v, Follow stopS rest → rdSL f t rest = some v → ∃ g, rdS g (t.text ++ rest) = some v) : Reads t where
  F := fun h => by rw [hf] at h; cases h
  P := fun h => by rw [hf, hp] at h; cases h
  S := fun _ => S
  I := fun rest hr => I_of_S (S rest 1 _ (hr.imp fun c h => (stopI_S c h).1) (stay_SI hr)) (no_dots hr)
  H := fun h => by rw [hf] at h; cases h
theorem rng_reads {t : Tm} (hf : facB t = false) (hp : prodB t = false) (hg : rngB t = true) (I : ∀ rest, Follow stopI rest → ∃ g, rdI g (t.text ++ rest) = some (t, rest)) : Reads t where
  F := fun h => by rw [hf] at h; cases h
  P := fun h => by rw [hf, hp] at h; cases h
  S := fun h => by rw [hg] at h; cases h
  I := I
  H := fun h => by rw [hf] at h; cases h

theorem op_fac {x : Tm} (hx : Reads x) {o : Int} {i : Nat} {rest : List UInt8} (h : enclosedB o i x = true ∨ facB x = true) (hr : Follow stopC rest) : ∃ g, rdF g (opT o i x ++ rest) = some (x, rest) := by
  unfold opT
  cases he : enclosedB o i x
  · rw [he] at h
    rw [if_neg (by simp)]
    exact hx.F (by rcases h with h | h; cases h; exact h) rest hr
  · rw [if_pos rfl, List.cons_append, List.append_assoc]
    exact enc (hx.I (41 :: rest) (.inr ⟨41, rest, rfl, rfl⟩))
theorem op_P {x : Tm} (hx : Reads x) {o : Int} {i : Nat} {rest : List UInt8} {f : Nat} {v : Tm × List UInt8} (h : enclosedB o i x = true ∨ (facB x || prodB x) = true) (hr : Follow stopC rest) (hv : rdPL f x rest = some v) : ∃ g, rdP g (opT o i x ++ rest) = some v := by
  cases he : enclosedB o i x
  · have e : opT o i x = x.text := by unfold opT; rw [he]; rfl
    rw [e]
    exact hx.P (by rcases h with h | h; rw [he] at h; cases h; exact h) rest f v hr hv
  · exact P_of_F (op_fac hx (.inl he) hr) hv
theorem op_S {x : Tm} (hx : Reads x) {o : Int} {i : Nat} {rest : List UInt8} {f : Nat} {v : Tm × List UInt8} (h : enclosedB o i x = true ∨ rngB x = false) (hr : Follow stopS rest) (hv : rdSL f x rest = some v) : ∃ g, rdS g (opT o i x ++ rest) = some v := by
  cases he : enclosedB o i x
  · have e : opT o i x = x.text := by unfold opT; rw [he]; rfl
    rw [e]
    exact hx.S (by rcases h with h | h; rw [he] at h; cases h; exact h) rest f v hr hv
  · exact S_of_P (P_of_F (op_fac hx (.inl he) (hr.imp stopS_C)) (stay_P hr)) hv

/-- Each valid term is of one level. -/
theorem level {x : Tm} (hq : x.rq = true) : facB x = true ∨ prodB x = true ∨ sumB x = true ∨ rngB x = true := by
  obtain ⟨k, n, s, us⟩ := x
  simp only [Tm.rq, Bool.and_eq_true] at hq
  have hr := hq.1
  unfold reqB at hr
  unfold facB prodB sumB rngB
  by_cases h1 : k = 1
  · left; simp [h1]
  · rw [if_neg h1] at hr
    by_cases h2 : k = 2
    · left; simp [h2]
    · rw [if_neg h2] at hr
      by_cases h3 : k = 3
      · left; simp [h3]
      · rw [if_neg h3] at hr
        by_cases h4 : k = 4
        · left; simp [h4]
        · rw [if_neg h4] at hr
          by_cases h5 : k = 5
          · rw [if_pos h5, Bool.and_eq_true] at hr
            have ho := hr.2
            have hm : us.length = 1 ∨ us.length = 2 := by
              unfold operB at ho
              split at ho
              · simpa using ho
              · rw [Bool.and_eq_true, decide_eq_true_eq] at ho; exact .inr ho.2
            rcases hm with hm | hm
            · left; simp [h5, hm]
            · right
              subst h5
              cases hs : (s.toList == [43] || s.toList == [45])
              · left; show ((5 : Int) == 5 && us.length == 2 && !(s.toList == [43] || s.toList == [45])) = true; rw [hm, hs]; rfl
              · right; left; show ((5 : Int) == 5 && us.length == 2 && (s.toList == [43] || s.toList == [45])) = true; rw [hm, hs]; rfl
          · rw [if_neg h5] at hr
            by_cases h6 : k = 6
            · right; right; right; simp [h6]
            · rw [if_neg h6] at hr; cases hr
theorem encl_rng {x : Tm} (h : rngB x = true) (o : Int) (i : Nat) : enclosedB o i x = true := by
  obtain ⟨k, n, s, us⟩ := x
  have hk : k = 6 := by simpa [rngB] using h
  subst hk; exact encl6 o n i s us
theorem encl_sum {x : Tm} (h : sumB x = true) (o : Int) (i : Nat) : enclosedB o i x = (decide (1 < o) || ((1 : Int) == o && decide (i = 1))) := by
  obtain ⟨k, n, s, us⟩ := x
  simp only [sumB, Bool.and_eq_true, beq_iff_eq] at h
  obtain ⟨⟨rfl, hm⟩, hs⟩ := h
  rw [encl5]
  have e : strengthI 5 s us.length = 1 := by
    unfold strengthI
    rw [if_neg (by decide), if_neg (by omega), if_pos hs]
  rw [e]; rfl
theorem encl_prod {x : Tm} (h : prodB x = true) (o : Int) (i : Nat) : enclosedB o i x = (decide (2 < o) || ((2 : Int) == o && decide (i = 1))) := by
  obtain ⟨k, n, s, us⟩ := x
  simp only [prodB, Bool.and_eq_true, beq_iff_eq, Bool.not_eq_true'] at h
  obtain ⟨⟨rfl, hm⟩, hs⟩ := h
  rw [encl5]
  have e : strengthI 5 s us.length = 2 := by
    unfold strengthI
    rw [if_neg (by decide), if_neg (by omega), if_neg (by rw [hs]; simp)]
  rw [e]; rfl
theorem need_un {x : Tm} (hq : x.rq = true) : enclosedB 3 0 x = true ∨ (facB x = true ∧ x.kind ≠ 1) := by
  rcases level hq with h | h | h | h
  · obtain ⟨k, n, s, us⟩ := x
    by_cases hk : k = 1
    · subst hk; exact .inl (by rw [encl1]; rfl)
    · exact .inr ⟨h, hk⟩
  · exact .inl (by rw [encl_prod h]; rfl)
  · exact .inl (by rw [encl_sum h]; rfl)
  · exact .inl (encl_rng h _ _)
theorem need_2r {x : Tm} (hq : x.rq = true) : enclosedB 2 1 x = true ∨ facB x = true := by
  rcases level hq with h | h | h | h
  · exact .inr h
  · exact .inl (by rw [encl_prod h]; rfl)
  · exact .inl (by rw [encl_sum h]; rfl)
  · exact .inl (encl_rng h _ _)
theorem need_2l {x : Tm} (hq : x.rq = true) : enclosedB 2 0 x = true ∨ (facB x || prodB x) = true := by
  rcases level hq with h | h | h | h
  · exact .inr (by rw [h]; rfl)
  · exact .inr (by rw [h]; simp)
  · exact .inl (by rw [encl_sum h]; rfl)
  · exact .inl (encl_rng h _ _)
theorem need_1r {x : Tm} (hq : x.rq = true) : enclosedB 1 1 x = true ∨ (facB x || prodB x) = true := by
  rcases level hq with h | h | h | h
  · exact .inr (by rw [h]; rfl)
  · exact .inr (by rw [h]; simp)
  · exact .inl (by rw [encl_sum h]; rfl)
  · exact .inl (encl_rng h _ _)
theorem need_0 {x : Tm} (o : Int) (i : Nat) : enclosedB o i x = true ∨ rngB x = false := by
  cases h : rngB x
  · exact .inr rfl
  · exact .inl (encl_rng h o i)

/-! ### The texts of each kind -/
theorem text_un (n : Int) (s : ByteArray) (x : Tm) : (Tm.mk 5 n s [x]).text = s.data.toList ++ opT 3 0 x := by
  rw [text_5]
  have e : strengthI 5 s [x].length = 3 := rfl
  rw [e]
  simp only [Tm.textO, List.length_cons, List.length_nil, Nat.zero_add, if_true, List.append_nil]
  rfl
theorem text_bin (n : Int) (s : ByteArray) (a b : Tm) : (Tm.mk 5 n s [a, b]).text = opT (strengthI 5 s 2) 0 a ++ (s.data.toList ++ opT (strengthI 5 s 2) 1 b) := by
  rw [text_5]
  show Tm.textO (strengthI 5 s 2) 2 s.data.toList 0 [a, b] = _
  unfold opT
  simp [Tm.textO]
theorem text_rng (n : Int) (s : ByteArray) (a b : Tm) : (Tm.mk 6 n s [a, b]).text = opT 0 0 a ++ ([46, 46] ++ opT 0 1 b) := by
  rw [text_6]
  have e : strengthI 6 s [a, b].length = 0 := rfl
  rw [e]
  show Tm.textO 0 2 [46, 46] 0 [a, b] = _
  unfold opT
  simp [Tm.textO]
theorem bytes_of {s : ByteArray} {l : List UInt8} (h : s.data.toList = l) : s = ⟨l.toArray⟩ := by
  cases s with
  | mk d => subst h; simp
theorem bytes_toList (s : ByteArray) : s.toList = s.data.toList := Lib.toList_data s
end Go.Proofs.YtcoieohbmkjpoaaGreatDoor
namespace Go.Proofs.YtcoieohbmkjpoaaGreatDoor
open Go.RowKit

theorem args_read : ∀ (ts : List Tm) (t : Tm), Reads t → (∀ x ∈ ts, Reads x) → ∀ rest, ∃ g, rdA g (t.text ++ (Tm.textF 44 ts ++ 41 :: rest)) = some (t :: ts, rest)
  | [], t, ht, _, rest => by
    obtain ⟨g, hg⟩ := ht.I (41 :: rest) (.inr ⟨41, rest, rfl, rfl⟩)
    refine ⟨g + 1, ?_⟩
    simp only [Tm.textF, List.nil_append]
    rw [rdA, hg]
    simp only []
    rw [if_neg (by decide)]
    first | rw [if_pos rfl] | rw [if_pos trivial]
  | t2 :: ts, t, ht, hs, rest => by
    obtain ⟨g2, h2⟩ := args_read ts t2 (hs t2 (List.mem_cons_self ..)) (fun x hx => hs x (List.mem_cons_of_mem _ hx)) rest
    obtain ⟨g1, h1⟩ := ht.I (44 :: (t2.text ++ (Tm.textF 44 ts ++ 41 :: rest))) (.inr ⟨44, _, rfl, rfl⟩)
    refine ⟨g1 + g2 + 1, ?_⟩
    have e : t.text ++ (Tm.textF 44 (t2 :: ts) ++ 41 :: rest) = t.text ++ 44 :: (t2.text ++ (Tm.textF 44 ts ++ 41 :: rest)) := by
      simp only [Tm.textF, List.cons_append, List.append_assoc]
    have h3 := up_A h2 g1
    rw [Nat.add_comm] at h3
    rw [e, rdA, up_I h1 g2]
    simp only []
    first | rw [if_pos rfl, h3] | rw [if_pos trivial, h3]

theorem len2 {l : List Tm} (h : l.length = 2) : ∃ a b, l = [a, b] := by
  match l, h with
  | [a, b], _ => exact ⟨a, b, rfl⟩
theorem wrd_no {c : UInt8} (h : wrd c = true) : c ≠ 45 ∧ c ≠ 40 := by
  refine ⟨?_, ?_⟩ <;> (rintro rfl; revert h; decide +kernel)
theorem dig_no {c : UInt8} (h : dig c = true) : c ≠ 45 ∧ c ≠ 40 := wrd_no (dig_wrd c h)
theorem toArray_list (s : ByteArray) : (⟨s.data.toList.toArray⟩ : ByteArray) = s := (bytes_of rfl).symm

/-- A name, then what may follow. -/
theorem name_read {s : ByteArray} (hN : NameL s.data.toList) {k : Int} (hk : (if symbolB s then (2 : Int) else 3) = k) {rest : List UInt8} (hr : Follow stopC rest) :
    rdF 1 (s.data.toList ++ rest) = some (.mk k 0 s [], rest) := by
  obtain ⟨⟨c, r, hl, hc⟩, hw⟩ := hN
  obtain ⟨h1, h2⟩ := run_stop hw (follow_run (fun c h => (stop_wrd h).1) hr)
  have hnm : nameT s.data.toList = .mk k 0 s [] := by unfold nameT; rw [toArray_list, hk]
  have hcw := hw c (by rw [hl]; exact List.mem_cons_self ..)
  rw [hl, List.cons_append] at h1 h2 ⊢
  rw [rdF, if_neg (wrd_no hcw).1, if_neg (wrd_no hcw).2, if_neg (by rw [hc]; simp), if_pos hcw, h1, h2, ← hl, hnm]
  rcases hr with rfl | ⟨d, q, rfl, hd⟩
  · rfl
  · simp only []
    rw [if_neg (stop_wrd hd).2.2]

set_option maxHeartbeats 1000000 in
theorem reads : ∀ t : Tm, t.rq = true → Reads t := by
  intro t
  induction t using Tm.ind with
  | h k n s us ih =>
    intro hq
    simp only [Tm.rq, Bool.and_eq_true] at hq
    obtain ⟨hr, hL⟩ := hq
    have hsub : ∀ x ∈ us, Reads x := fun x hx => ih x hx (rqL_mem hL hx)
    have hrq : ∀ x ∈ us, x.rq = true := fun x hx => rqL_mem hL hx
    clear ih
    unfold reqB at hr
    by_cases h1 : k = 1
    · subst h1
      rw [if_pos rfl] at hr
      simp only [Bool.and_eq_true, decide_eq_true_eq] at hr
      obtain ⟨⟨⟨_, _⟩, hse⟩, hm⟩ := hr
      have hs : s = ⟨#[]⟩ := by rw [bytes_toList] at hse; exact bytes_of (by simpa using hse)
      have hu : us = [] := List.length_eq_zero_iff.1 hm
      subst hs hu
      refine fac_reads (fun rest hrest => ⟨1, ?_⟩) (fun h => absurd rfl h)
      rw [text_1]
      unfold Lib.itoa
      have hfr := follow_run (p := dig) (fun c h => (stop_wrd h).2.1) hrest
      by_cases hn : n < 0
      · rw [if_pos hn]
        obtain ⟨d, q, hdq⟩ := dec_nonempty n.natAbs
        have hall := dec_dig n.natAbs
        have hv := dec_dval n.natAbs
        obtain ⟨e1, e2⟩ := run_stop hall hfr
        rw [hdq] at e1 e2 hall hv ⊢
        rw [List.cons_append] at e1 e2
        rw [List.cons_append, List.cons_append, rdF, if_pos rfl]
        unfold minusT
        simp only []
        rw [if_pos (hall d (List.mem_cons_self ..)), e1, e2, hv]
        have : -((n.natAbs : Nat) : Int) = n := by omega
        rw [this]
      · rw [if_neg hn]
        obtain ⟨d, q, hdq⟩ := dec_nonempty n.toNat
        have hall := dec_dig n.toNat
        have hv := dec_dval n.toNat
        obtain ⟨e1, e2⟩ := run_stop hall hfr
        rw [hdq] at e1 e2 hall hv ⊢
        rw [List.cons_append] at e1 e2
        have hd := hall d (List.mem_cons_self ..)
        rw [List.cons_append, rdF, if_neg (dig_no hd).1, if_neg (dig_no hd).2, if_pos hd, e1, e2, hv]
        have : ((n.toNat : Nat) : Int) = n := by omega
        rw [this]
    rw [if_neg h1] at hr
    by_cases h2 : k = 2
    · subst h2
      rw [if_pos rfl] at hr
      simp only [Bool.and_eq_true, decide_eq_true_eq] at hr
      obtain ⟨⟨rfl, hm⟩, hs⟩ := hr
      have hu : us = [] := List.length_eq_zero_iff.1 hm
      subst hu
      have hN := nameL_symbol hs
      have ht : (Tm.mk 2 0 s []).text = s.data.toList := text_0 2 0 s [] ⟨by decide, by decide, by decide, by decide⟩
      refine fac_reads (fun rest hrest => ⟨1, ?_⟩) (fun _ => ?_)
      · rw [ht]; exact name_read hN (by rw [hs]; rfl) hrest
      · rw [ht]; obtain ⟨⟨c, r, hl, hc⟩, _⟩ := hN; exact ⟨c, r, hl, hc⟩
    rw [if_neg h2] at hr
    by_cases h3 : k = 3
    · subst h3
      rw [if_pos rfl] at hr
      simp only [Bool.and_eq_true, decide_eq_true_eq] at hr
      obtain ⟨⟨rfl, hm⟩, hs⟩ := hr
      have hu : us = [] := List.length_eq_zero_iff.1 hm
      subst hu
      have hN := nameL_variable hs
      have ht : (Tm.mk 3 0 s []).text = s.data.toList := text_0 3 0 s [] ⟨by decide, by decide, by decide, by decide⟩
      refine fac_reads (fun rest hrest => ⟨1, ?_⟩) (fun _ => ?_)
      · rw [ht]; exact name_read hN (by rw [variable_nosymbol hs]; rfl) hrest
      · rw [ht]; obtain ⟨⟨c, r, hl, hc⟩, _⟩ := hN; exact ⟨c, r, hl, hc⟩
    rw [if_neg h3] at hr
    by_cases h4 : k = 4
    · subst h4
      rw [if_pos rfl] at hr
      simp only [Bool.and_eq_true, decide_eq_true_eq] at hr
      obtain ⟨⟨⟨rfl, hm1⟩, _⟩, hs⟩ := hr
      cases us with
      | nil => simp at hm1
      | cons t ts =>
        obtain ⟨⟨c, r, hl, hc⟩, hw⟩ := nameL_symbol hs
        have ht : (Tm.mk 4 0 s (t :: ts)).text = s.data.toList ++ (40 :: (t.text ++ (Tm.textF 44 ts ++ [41]))) := by
          rw [text_4]
          simp only [Tm.textF, List.cons_append, List.append_assoc]
        refine fac_reads (fun rest _ => ?_) (fun _ => ?_)
        · obtain ⟨g, hg⟩ := args_read ts t (hsub t (List.mem_cons_self ..)) (fun x hx => hsub x (List.mem_cons_of_mem _ hx)) rest
          refine ⟨g + 1, ?_⟩
          have e : (Tm.mk 4 0 s (t :: ts)).text ++ rest = s.data.toList ++ (40 :: (t.text ++ (Tm.textF 44 ts ++ 41 :: rest))) := by
            rw [ht]; simp only [List.cons_append, List.append_assoc, List.nil_append]
          obtain ⟨e1, e2⟩ := run_stop (rest := 40 :: (t.text ++ (Tm.textF 44 ts ++ 41 :: rest))) hw (.inr ⟨40, _, rfl, by decide +kernel⟩)
          have hcw := hw c (by rw [hl]; exact List.mem_cons_self ..)
          rw [e]
          rw [hl, List.cons_append] at e1 e2 ⊢
          rw [rdF, if_neg (wrd_no hcw).1, if_neg (wrd_no hcw).2, if_neg (by rw [hc]; simp), if_pos hcw, e1, e2]
          simp only []
          first | rw [if_pos rfl, hg, ← hl] | rw [if_pos trivial, hg, ← hl]
        · rw [ht, hl]; exact ⟨c, _, rfl, hc⟩
    rw [if_neg h4] at hr
    by_cases h5 : k = 5
    · subst h5
      rw [if_pos rfl] at hr
      simp only [Bool.and_eq_true, decide_eq_true_eq] at hr
      obtain ⟨rfl, ho⟩ := hr
      have hcase : (s.data.toList = [45] ∧ us.length = 1) ∨ (∃ c, s.data.toList = [c] ∧ (opP c = true ∨ opS c = true) ∧ us.length = 2) := by
        unfold operB at ho
        rw [bytes_toList] at ho
        split at ho
        · rename_i h
          have h45 : s.data.toList = [45] := by simpa using h
          simp only [Bool.or_eq_true, decide_eq_true_eq] at ho
          rcases ho with h6 | h6
          · exact .inl ⟨h45, h6⟩
          · exact .inr ⟨45, h45, .inr rfl, h6⟩
        · simp only [Bool.and_eq_true, Bool.or_eq_true, decide_eq_true_eq, beq_iff_eq] at ho
          obtain ⟨h6, h7⟩ := ho
          rcases h6 with ((h6 | h6) | h6) | h6
          · exact .inr ⟨43, h6, .inr rfl, h7⟩
          · exact .inr ⟨42, h6, .inl rfl, h7⟩
          · exact .inr ⟨47, h6, .inl rfl, h7⟩
          · exact .inr ⟨92, h6, .inl rfl, h7⟩
      rcases hcase with ⟨hs, hm⟩ | ⟨c, hs, hc, hm⟩
      · obtain ⟨x, rfl⟩ := List.length_eq_one_iff.1 hm
        have hx := hsub x (List.mem_singleton.2 rfl)
        have hxq := hrq x (List.mem_singleton.2 rfl)
        have hsb := bytes_of hs
        have hfac : facB (Tm.mk 5 0 s [x]) = true := rfl
        have hd : ∃ d q, opT 3 0 x = d :: q ∧ dig d = false := by
          rcases need_un hxq with h | ⟨h, h'⟩
          · exact ⟨40, x.text ++ [41], by unfold opT; rw [h]; rfl, by decide +kernel⟩
          · cases he : enclosedB 3 0 x
            · obtain ⟨d, q, h6, h7⟩ := hx.H h h'
              exact ⟨d, q, by unfold opT; rw [he]; exact h6, h7⟩
            · exact ⟨40, x.text ++ [41], by unfold opT; rw [he]; rfl, by decide +kernel⟩
        obtain ⟨d, q, hdq, hdd⟩ := hd
        refine fac_reads (fun rest hrest => ?_) (fun _ => ?_)
        · obtain ⟨g, hg⟩ := op_fac (o := 3) (i := 0) hx (by rcases need_un hxq with h | h; exact .inl h; exact .inr h.1) hrest
          refine ⟨g + 1, ?_⟩
          rw [text_un, hs, List.append_assoc, List.singleton_append]
          rw [hdq, List.cons_append] at hg ⊢
          rw [rdF, if_pos rfl]
          unfold minusT
          simp only []
          rw [if_neg (by rw [hdd]; simp), hg]
          simp only []
          rw [hsb]
        · rw [text_un, hs]; exact ⟨45, _, rfl, by decide +kernel⟩
      · obtain ⟨a, b, rfl⟩ := len2 hm
        have ha := hsub a (by simp)
        have hb := hsub b (by simp)
        have haq := hrq a (by simp)
        have hbq := hrq b (by simp)
        have hsb := bytes_of hs
        have htx := text_bin 0 s a b
        have hfac : facB (Tm.mk 5 0 s [a, b]) = false := rfl
        rcases hc with hc | hc
        · have hst : strengthI 5 s 2 = 2 := by
            unfold strengthI
            rw [bytes_toList, hs, if_neg (by decide), if_neg (by decide), if_neg]
            unfold opP at hc
            simp only [Bool.or_eq_true, beq_iff_eq] at hc
            rcases hc with (rfl | rfl) | rfl <;> decide
          rw [hst] at htx
          refine prod_reads hfac (fun rest f v hrest hv => ?_)
          obtain ⟨g1, h6⟩ := op_fac (o := 2) (i := 1) hb (need_2r hbq) hrest
          have hstep : rdPL (g1 + f + 1) a (c :: (opT 2 1 b ++ rest)) = some v := by
            rw [rdPL, if_pos hc, up_F h6 f]
            simp only []
            rw [← hsb, Nat.add_comm]
            exact up_PL hv g1
          have hcs : stopC c = true := by
            unfold opP at hc
            simp only [Bool.or_eq_true, beq_iff_eq] at hc
            rcases hc with (rfl | rfl) | rfl <;> rfl
          have := op_P (o := 2) (i := 0) ha (need_2l haq) (.inr ⟨c, _, rfl, hcs⟩) hstep
          rw [htx, hs]
          simpa only [List.append_assoc, List.singleton_append, List.cons_append, List.nil_append] using this
        · have hst : strengthI 5 s 2 = 1 := by
            unfold strengthI
            rw [bytes_toList, hs, if_neg (by decide), if_neg (by decide), if_pos]
            unfold opS at hc
            simp only [Bool.or_eq_true, beq_iff_eq] at hc
            rcases hc with rfl | rfl <;> decide
          rw [hst] at htx
          have hprod : prodB (Tm.mk 5 0 s [a, b]) = false := by
            show ((5 : Int) == 5 && [a, b].length == 2 && !(s.toList == [43] || s.toList == [45])) = false
            rw [bytes_toList, hs]
            unfold opS at hc
            simp only [Bool.or_eq_true, beq_iff_eq] at hc
            rcases hc with rfl | rfl <;> rfl
          refine sum_reads hfac hprod (fun rest f v hrest hv => ?_)
          obtain ⟨g1, h6⟩ := op_P (o := 1) (i := 1) hb (need_1r hbq) (hrest.imp stopS_C) (stay_P (x := b) hrest)
          have hstep : rdSL (g1 + f + 1) a (c :: (opT 1 1 b ++ rest)) = some v := by
            rw [rdSL, if_pos hc, up_P h6 f]
            simp only []
            rw [← hsb, Nat.add_comm]
            exact up_SL hv g1
          have hcs : stopS c = true := by
            unfold opS at hc
            simp only [Bool.or_eq_true, beq_iff_eq] at hc
            rcases hc with rfl | rfl <;> rfl
          have := op_S (o := 1) (i := 0) ha (need_0 1 0) (.inr ⟨c, _, rfl, hcs⟩) hstep
          rw [htx, hs]
          simpa only [List.append_assoc, List.singleton_append, List.cons_append, List.nil_append] using this
    rw [if_neg h5] at hr
    by_cases h6 : k = 6
    · subst h6
      rw [if_pos rfl] at hr
      simp only [Bool.and_eq_true, decide_eq_true_eq] at hr
      obtain ⟨⟨rfl, hse⟩, hm⟩ := hr
      have hs : s = ⟨#[]⟩ := by rw [bytes_toList] at hse; exact bytes_of (by simpa using hse)
      subst hs
      obtain ⟨a, b, rfl⟩ := len2 hm
      have ha := hsub a (by simp)
      have hb := hsub b (by simp)
      refine rng_reads rfl rfl rfl (fun rest hrest => ?_)
      obtain ⟨g2, h7⟩ := op_S (o := 0) (i := 1) hb (need_0 0 1) (hrest.imp fun c h => (stopI_S c h).1) (stay_SI (x := b) hrest)
      obtain ⟨g1, h8⟩ := op_S (o := 0) (i := 0) (rest := 46 :: 46 :: (opT 0 1 b ++ rest)) ha (need_0 0 0) (.inr ⟨46, _, rfl, rfl⟩) (stay_S (x := a) (r := 46 :: (opT 0 1 b ++ rest)) (c := 46) rfl)
      refine ⟨g1 + g2 + 1, ?_⟩
      have h9 := up_S h7 g1
      rw [Nat.add_comm] at h9
      rw [text_rng]
      have e : opT 0 0 a ++ ([46, 46] ++ opT 0 1 b) ++ rest = opT 0 0 a ++ 46 :: 46 :: (opT 0 1 b ++ rest) := by
        simp only [List.append_assoc, List.cons_append, List.nil_append]
      have hdt : dots (46 :: 46 :: (opT 0 1 b ++ rest)) = some (opT 0 1 b ++ rest) := rfl
      rw [e, rdI, up_S h8 g2]
      simp only [hdt, h9]
    · rw [if_neg h6] at hr; cases hr

/-- Different valid terms have different texts. -/
theorem text_inj {a b : Tm} (ha : a.validB = true) (hb : b.validB = true) (h : a.text = b.text) : a = b := by
  obtain ⟨g1, h1⟩ := (reads a (rq_of 1 a ha)).I [] (.inl rfl)
  obtain ⟨g2, h2⟩ := (reads b (rq_of 1 b hb)).I [] (.inl rfl)
  rw [List.append_nil] at h1 h2
  have h3 := up_I h1 g2
  have h4 := up_I h2 g1
  rw [Nat.add_comm g2 g1, ← h] at h4
  rw [h3] at h4
  injection h4 with h5
  exact congrArg Prod.fst h5
end Go.Proofs.YtcoieohbmkjpoaaGreatDoor
namespace Go.Proofs.YtcoieohbmkjpoaaGreatDoor
open Go.RowKit

mutual
/-- Terms and letters of names, together. -/
def Tm.wt : Tm → Nat
  | .mk _ _ s us => 1 + s.size + Tm.wtL us
def Tm.wtL : List Tm → Nat
  | [] => 0
  | t :: ts => Tm.wt t + Tm.wtL ts
end

theorem textF_len : ∀ (us : List Tm) (sep : UInt8), (∀ t ∈ us, t.text.length + 3 ≤ 24 * t.wt) → (Tm.textF sep us).length ≤ 24 * Tm.wtL us
  | [], _, _ => by simp [Tm.textF]
  | t :: ts, sep, h => by
    have h1 := h t (List.mem_cons_self ..)
    have h2 := textF_len ts 44 (fun x hx => h x (List.mem_cons_of_mem _ hx))
    simp only [Tm.textF, Tm.wtL, List.length_cons, List.length_append]
    omega

theorem textO_len (o : Int) (len : Nat) (sign : List UInt8) : ∀ (us : List Tm) (i : Nat), (∀ t ∈ us, t.text.length + 3 ≤ 24 * t.wt) →
    (Tm.textO o len sign i us).length ≤ 24 * Tm.wtL us + (if i < len then sign.length else 0)
  | [], i, _ => by simp [Tm.textO]
  | t :: ts, i, h => by
    have h1 := h t (List.mem_cons_self ..)
    have h2 := textO_len o len sign ts (i + 1) (fun x hx => h x (List.mem_cons_of_mem _ hx))
    simp only [Tm.textO, Tm.wtL, List.length_append]
    have h3 : (if enclosedB o i t then 40 :: (t.text ++ [41]) else t.text).length ≤ t.text.length + 2 := by
      split <;> simp
    by_cases hi : i + 1 = len
    · rw [if_pos hi]
      rw [if_neg (by omega)] at h2
      rw [if_pos (show i < len by omega)]
      omega
    · rw [if_neg hi]
      simp only [List.length_nil]
      by_cases hj : i < len
      · rw [if_pos (show i + 1 < len by omega)] at h2
        rw [if_pos hj]
        omega
      · rw [if_neg (by omega)] at h2
        rw [if_neg hj]
        omega

theorem size_data (s : ByteArray) : s.data.toList.length = s.size := by
  cases s; rfl

theorem text_len : ∀ t : Tm, ∀ (B : Nat) (w : World) (c0 c1 c2 c3 : Value), IsTm B w c0 c1 c2 c3 t → t.text.length + 3 ≤ 24 * t.wt := by
  intro t
  induction t using Tm.ind with
  | h k n s us ih =>
    intro B w c0 c1 c2 c3 ht
    simp only [IsTm] at ht
    obtain ⟨_, _, _, hn, _, _, a, cap, _, hl, hr⟩ := ht
    have ih' : ∀ t ∈ us, t.text.length + 3 ≤ 24 * t.wt := by
      intro t hm
      obtain ⟨b, off, _, _, hi⟩ := hr (List.ne_nil_of_mem hm)
      obtain ⟨i, hil, rfl⟩ := List.mem_iff_getElem.1 hm
      obtain ⟨d0, d1, d2, d3, _, _, _, _, ht⟩ := hi.at i hil
      exact ih _ (List.getElem_mem hil) B w d0 d1 d2 d3 ht
    have hs := size_data s
    unfold I64 Lit.wf at hn
    simp only [Bool.and_eq_true, decide_eq_true_eq] at hn
    have hI := Lib.itoa_length_le n hn.1 hn.2
    have hF := textF_len us 40 ih'
    have hO := textO_len (strengthI 5 s us.length) us.length s.data.toList us 0 ih'
    have hO6 := textO_len (strengthI 6 s us.length) us.length [46, 46] us 0 ih'
    simp only [Tm.text, Tm.wt]
    split
    · omega
    split
    · simp only [List.length_append, List.length_cons, List.length_nil]; omega
    split
    · split at hO <;> omega
    split
    · simp only [List.length_cons, List.length_nil] at hO6
      split at hO6 <;> omega
    · omega

theorem text_nonempty {t : Tm} (h : t.validB = true) : t.text ≠ [] := by
  intro e
  obtain ⟨g, hg⟩ := (reads t (rq_of 1 t h)).I [] (.inl rfl)
  rw [e] at hg
  cases g with
  | zero => simp [rdI] at hg
  | succ g =>
    simp only [List.append_nil] at hg
    cases g with
    | zero => simp [rdI, rdS] at hg
    | succ g =>
      cases g with
      | zero => simp [rdI, rdS, rdP] at hg
      | succ g =>
        cases g with
        | zero => simp [rdI, rdS, rdP, rdF] at hg
        | succ g => simp [rdI, rdS, rdP, rdF] at hg
end Go.Proofs.YtcoieohbmkjpoaaGreatDoor
namespace Go.Proofs.YtcoieohbmkjpoaaGreatDoor
open Go.RowKit Go.Shelf
attribute [local go_sem] Oper.semAt_some

theorem req_size {k n : Int} {s : ByteArray} {m : Nat} (h : reqB k n s m = true) : s.size ≤ 32 := by
  have hsym : ∀ {s : ByteArray}, symbolB s = true → s.size ≤ 32 := by
    intro s h
    unfold symbolB at h
    simp only [Bool.and_eq_true] at h
    exact of_decide_eq_true h.1.1
  have hvar : ∀ {s : ByteArray}, variableB s = true → s.size ≤ 32 := by
    intro s h
    unfold variableB at h
    simp only [Bool.and_eq_true] at h
    exact of_decide_eq_true h.1
  have hemp : ∀ {s : ByteArray}, s.toList.isEmpty = true → s.size ≤ 32 := by
    intro s h
    have h1 : s.toList = [] := List.isEmpty_iff.1 h
    rw [bytes_toList] at h1
    have := size_data s
    rw [h1] at this
    simp at this
    omega
  unfold reqB at h
  by_cases h1 : k = 1
  · rw [if_pos h1] at h
    simp only [Bool.and_eq_true] at h
    exact hemp h.1.2
  rw [if_neg h1] at h
  by_cases h2 : k = 2
  · rw [if_pos h2] at h
    simp only [Bool.and_eq_true] at h
    exact hsym h.2
  rw [if_neg h2] at h
  by_cases h3 : k = 3
  · rw [if_pos h3] at h
    simp only [Bool.and_eq_true] at h
    exact hvar h.2
  rw [if_neg h3] at h
  by_cases h4 : k = 4
  · rw [if_pos h4] at h
    simp only [Bool.and_eq_true] at h
    exact hsym h.2
  rw [if_neg h4] at h
  by_cases h5 : k = 5
  · rw [if_pos h5] at h
    simp only [Bool.and_eq_true] at h
    have := h.2
    unfold operB at this
    have hl : s.toList.length = 1 := by
      cases hs : s.toList with
      | nil => rw [hs] at this; simp at this
      | cons c r =>
        cases r with
        | nil => rfl
        | cons d r => rw [hs] at this; simp at this
    rw [bytes_toList, size_data] at hl
    omega
  rw [if_neg h5] at h
  by_cases h6 : k = 6
  · rw [if_pos h6] at h
    simp only [Bool.and_eq_true] at h
    exact hemp h.1.2
  rw [if_neg h6] at h
  cases h
mutual
theorem wt_le : ∀ t : Tm, t.rq = true → t.wt ≤ 33 * t.count
  | .mk k n s us, h => by
    simp only [Tm.rq, Bool.and_eq_true] at h
    have h1 := req_size h.1
    have h2 := wtL_le us h.2
    simp only [Tm.wt, Tm.count]
    omega
theorem wtL_le : ∀ ts : List Tm, Tm.rqL ts = true → Tm.wtL ts ≤ 33 * Tm.countL ts
  | [], _ => by simp [Tm.wtL]
  | t :: ts, h => by
    simp only [Tm.rqL, Bool.and_eq_true] at h
    have h1 := wt_le t h.1
    have h2 := wtL_le ts h.2
    simp only [Tm.wtL, Tm.countL]
    omega
end
theorem str_len {t : Tm} {B : Nat} {w : World} {c0 c1 c2 c3 : Value} (ht : IsTm B w c0 c1 c2 c3 t) (hc : t.count ≤ 1000000) (hv : t.validB = true) : t.text.length ≤ 1000000000 := by
  have h1 := text_len t B w c0 c1 c2 c3 ht
  have h2 := wt_le t (rq_of 1 t hv)
  omega
/-- The table of powers of ten is laid. -/
def Tab10 (w : World) : Prop := 3 < w.heap.size ∧ Lib.TabIs Tryz.prog w "internal/strconv.uint64pow10" .u64 Lib.pow10Tab
theorem Tab10.below {w w' : World} (h : Tab10 w) (hb : Below w.heap.size w w') : Tab10 w' := ⟨Nat.lt_of_lt_of_le h.1 hb.size, tab_below hb h.1 h.2⟩
theorem str_any (t : Tm) (c0 c1 c2 c3 : Value) (w : World) (ht : IsTm w.heap.size w c0 c1 c2 c3 t) (hc : t.count ≤ 1000000) (hT : Tab10 w) :
    Calls Tryz.prog 59 #[.agg #[c0, c1, c2, c3]] w fun e w' => e = .returned (.string t.str) ∧ Below w.heap.size w w' :=
  string_any t c0 c1 c2 c3 w ht (by have := Tm.depth_le_count t; omega) (fun hv => by have := str_len ht hc hv; omega) hT.1 hT.2
set_option maxRecDepth 100000 in
set_option maxHeartbeats 2000000 in
theorem collectZ_any (ts : List Tm) (a : Option Addr) (cap : Nat) (w : World) (hts : ts ≠ [] → ∃ b off, a = some ⟨b, off, none⟩ ∧ b < w.heap.size ∧ IsTms w.heap.size w b off ts) (hl : Tm.countL ts ≤ 1000000) (hT : Tab10 w) :
    Calls Tryz.prog 113 #[.slice a ts.length cap, .func (.func 59) #[] #[]] w fun e w' => ∃ v, e = .returned v ∧ w'.ownsRow w.heap.size 9 1 v ts.length (ts.map fun t => .string t.str) ∧ Below w.heap.size w w' := by
  have hlen : ts.length ≤ 1000000 := Nat.le_trans (len_countL' ts) hl
  have HG := Lib.hid (growZ_any ts.length hlen w)
  have HT := Lib.hid hts
  have HTB := Lib.hid hT
  have HL := Lib.hid hl
  clear hts hl hT
  go_enter Tryz.func113, Tryz.ntmps113
  go_wp2_with (go_at_call 156; refine HG.out.mono ?_; rintro e w1 ⟨v1, rfl, ho1, hb1, _⟩)
  have HR1 := Lib.hid ho1
  have HB1 := Lib.hid hb1
  clear ho1 hb1 HG
  go_loopw [5, 13] (fun v i wr => ∃ j : Nat, j ≤ ts.length ∧ i = .int .i64 j ∧ wr.ownsRow w.heap.size 9 1 v j ((ts.take j).map fun t => .string t.str) ∧ Below w.heap.size w wr) (fun _ i _ => ts.length - (intOf i).toNat)
  case atStart => exact ⟨0, by omega, by go_num, by simpa using HR1.out, HB1.out⟩
  case round =>
    obtain ⟨j, hj, rfl, ho, hbr⟩ := hrel
    obtain ⟨va, vc, rfl⟩ := own_slice ho
    have HO := Lib.hid ho
    have HBR := Lib.hid hbr
    have i1 : (0 : Int) ≤ (j : Int) := by omega
    clear ho hbr
    by_cases hlt : j < ts.length
    · obtain ⟨b, off, rfl, hbw, hI⟩ := HT.out (by intro e; rw [e] at hlt; simp at hlt)
      have hI2 := hI.below HBR.out hbw
      obtain ⟨c0, c1, c2, c3, y0, y1, y2, y3, hc⟩ := hI2.at j hlt
      have hcw := hc.mono HBR.out.size
      have hcnt : (ts[j]).count ≤ 1000000 := Nat.le_trans (count_mem' (List.getElem_mem hlt)) HL.out
      have htk := List.take_succ_eq_append_getElem hlt
      obtain ⟨t, ht⟩ : ∃ t, ts[j] = t := ⟨_, rfl⟩
      rw [ht] at hcw hcnt htk
      have HTK := Lib.hid htk
      obtain ⟨k, n, s, ua, ul, uc, rfl, rfl, rfl, rfl⟩ := hcw.cells4
      have i2 : (j : Int) < (ts.length : Int) := by omega
      have hbA : Below wr.heap.size wr (wr.alloc (.cells #[.int .u8 k, .int .i64 n, .string s, .slice ua ul uc] 46)) := (Below.refl _ _).alloc (Nat.le_refl _) _
      have hTr := HTB.out.below HBR.out
      have HC := Lib.hid (str_any t _ _ _ _ (wr.alloc (.cells #[.int .u8 k, .int .i64 n, .string s, .slice ua ul uc] 46)) ((hcw.below hbA).mono hbA.size) hcnt (hTr.below hbA))
      have HBA := Lib.hid hbA
      obtain ⟨sv, hsv⟩ : ∃ x, t.str = x := ⟨_, rfl⟩
      rw [hsv] at HC
      have HSV := Lib.hid hsv
      clear hI hI2 hc hcw hcnt ht htk hbA hTr hsv
      go_wp2_with fail
      refine HC.out.mono ?_
      rintro e w2 ⟨rfl, hb2⟩
      have hb3 : Below wr.heap.size wr w2 := HBA.out.trans (hb2.mono (by simp))
      have HB3 := Lib.hid hb3
      have HO3 := Lib.hid (own_grown' HO.out hb3)
      obtain ⟨i0, hi, hz0, hz1, hz2⟩ := info_parts' (show (Tryz.prog.info? 9).map (fun i => (i.zero, i.size, i.bytes)) = some (some (.string ⟨#[]⟩), 1, 16) by kernel_rfl)
      clear hb2 hb3 y0 y1 y2 y3 HC
      go_wp2_with (at_builtin; refine wpList_append_own_at _ rfl _ _ 153 rfl w.heap.size 9 i0 _ 1 16 Tryz.underlying153 hi hz0 hz1 hz2 rfl (by decide) (.slice va j vc) j ((ts.take j).map fun t => Value.string t.str) rfl ?c0 _ 1 1 [.string sv] rfl rfl ?c1 ?c2 ?c3 ?c4 ?c5 ?_)
      case c0 => exact own_grown' HO3.out ((Below.refl _ _).alloc (Nat.le_refl _) _)
      case c1 => exact cell_one_new _ _ _
      case c2 => simp [Value.oneCell']
      case c3 => unfold maxLen; omega
      case c4 => omega
      case c5 => have := HBR.out.size; have := HB3.out.size; simp; omega
      intro v' w' hown' hgrow _ hat
      have hbN : Below w2.heap.size w2 (w2.alloc (.cells #[.string sv] 9)) := (Below.refl _ _).alloc (Nat.le_refl _) _
      have hbW : Below wr.heap.size wr (w2.alloc (.cells #[.string sv] 9)) := HB3.out.trans (hbN.mono HB3.out.size)
      have hobl := own_block HO.out
      have HR2 := Lib.hid (show w'.ownsRow w.heap.size 9 1 v' (j + 1) ((ts.take (j + 1)).map fun t => .string t.str) by
        rw [HTK.out, List.map_append]
        simp only [List.map_cons, List.map_nil, HSV.out]
        rw [List.map_take]
        exact hown')
      have HB2 := Lib.hid (show Below w.heap.size w w' from (HBR.out.trans (hbW.mono HBR.out.size)).grown hgrow (by have := HBR.out.size; have := hbW.size; omega) (fun k e => (hobl k e).1))
      clear hown' hgrow hat hbN hbW hobl
      go_wp2
      go_roundw
      case rel => exact ⟨j + 1, by omega, by go_num, HR2.out, HB2.out⟩
      case measure => simp [intOf]; omega
    · have i2 : ¬ (j : Int) < (ts.length : Int) := by omega
      have hje : j = ts.length := by omega
      have hR := HO.out
      rw [hje, List.take_of_length_le (Nat.le_refl _)] at hR
      have HR := Lib.hid hR
      clear hR
      go_wp2
      go_ret
      exact ⟨_, rfl, by have := HR.out; rw [← hje] at this ⊢; exact this, HBR.out⟩
end Go.Proofs.YtcoieohbmkjpoaaGreatDoor
namespace Go.Proofs.YtcoieohbmkjpoaaGreatDoor
open Go.RowKit Go.Shelf
attribute [local go_sem] Oper.semAt_some

/-! Facts of drawn regions. -/
abbrev VF := Value → World → Prop
def Stays (F : VF) : Prop := ∀ v w w', F v w → Below w.heap.size w w' → F v w'
def FL (Fs : List VF) : Facts := fun i v w => match Fs[i]? with | some F => F v w | none => True
theorem FL_grow {Fs : List VF} (h : ∀ F ∈ Fs, Stays F) (i : Nat) (v : Value) (w w' : World) (hf : FL Fs i v w) (hb : Below w.heap.size w w') : FL Fs i v w' := by
  unfold FL at hf ⊢
  cases hq : Fs[i]? with
  | none => trivial
  | some F => rw [hq] at hf; exact h F (List.mem_of_getElem? hq) v w w' hf hb
def fV (x : Value) : VF := fun v _ => v = x
theorem fV_stays (x : Value) : Stays (fV x) := fun _ _ _ h _ => h
/-- An atom as a term. -/
def atT (x : Ato) : Tm := match x.2 with
  | [] => .mk 2 0 x.1 []
  | u :: us => .mk 4 0 x.1 (u :: us)
def atB (x : Ato) : ByteArray := ⟨(atT x).text.toArray⟩
theorem rqL_all : ∀ {us : List Tm}, us.all Tm.valueB = true → Tm.rqL us = true
  | [], _ => rfl
  | u :: us, h => by
    rw [List.all_cons, Bool.and_eq_true] at h
    have h1 := h.1
    unfold Tm.valueB at h1
    rw [Bool.and_eq_true] at h1
    simp only [Tm.rqL, Bool.and_eq_true]
    exact ⟨rq_of 1 u h1.1, rqL_all h.2⟩
theorem atT_rq {x : Ato} (h : validA x = true) : (atT x).rq = true := by
  obtain ⟨p, us⟩ := x
  unfold validA at h
  simp only [Bool.and_eq_true, decide_eq_true_eq] at h
  obtain ⟨⟨hs, hl⟩, ha⟩ := h
  cases us with
  | nil => simp [atT, Tm.rq, Tm.rqL, reqB, hs]
  | cons u us =>
    have hr := rqL_all ha
    simp only [atT, Tm.rq, hr, Bool.and_true]
    simp only [reqB]
    simp only [List.length_cons] at hl ⊢
    simp [hs]
    omega
theorem rq_inj {a b : Tm} (ha : a.rq = true) (hb : b.rq = true) (h : a.text = b.text) : a = b := by
  obtain ⟨g1, h1⟩ := (reads a ha).I [] (.inl rfl)
  obtain ⟨g2, h2⟩ := (reads b hb).I [] (.inl rfl)
  rw [List.append_nil] at h1 h2
  have h3 := up_I h1 g2
  have h4 := up_I h2 g1
  rw [Nat.add_comm g2 g1, ← h] at h4
  rw [h3] at h4
  injection h4 with h5
  exact congrArg Prod.fst h5
theorem atT_inj {x y : Ato} (h : atT x = atT y) : x = y := by
  obtain ⟨p, us⟩ := x
  obtain ⟨q, vs⟩ := y
  cases us <;> cases vs <;> simp [atT] at h <;> simp [h]
theorem atB_inj {x y : Ato} (hx : validA x = true) (hy : validA y = true) (h : atB x = atB y) : x = y := by
  have h1 : (atT x).text = (atT y).text := by
    unfold atB at h
    simpa using h
  exact atT_inj (rq_inj (atT_rq hx) (atT_rq hy) h1)
theorem str_inj' {t u : Tm} (ht : t.validB = true) (hu : u.validB = true) (h : t.str = u.str) : t = u := by
  unfold Tm.str at h
  rw [if_pos ht, if_pos hu] at h
  exact text_inj ht hu (by simpa using h)
theorem valid_of_value {t : Tm} (h : t.valueB = true) : t.validB = true := by
  unfold Tm.valueB at h
  rw [Bool.and_eq_true] at h
  exact h.1
theorem join_textF : ∀ (us : List Tm), us.all Tm.valueB = true → Tm.textF 44 us = Lib.joinTail [44] ((us.map Tm.str).map (·.data.toList))
  | [], _ => rfl
  | u :: us, h => by
    rw [List.all_cons, Bool.and_eq_true] at h
    have ih := join_textF us h.2
    simp only [Tm.textF, List.map_cons, Lib.joinTail, List.flatten_cons] at ih ⊢
    rw [ih]
    simp [Tm.str, valid_of_value h.1]
theorem text_join (p : ByteArray) (u : Tm) (us : List Tm) (h : (u :: us).all Tm.valueB = true) : (Tm.mk 4 0 p (u :: us)).text = p.data.toList ++ (40 :: (Lib.join (((u :: us).map Tm.str).map (·.data.toList)) [44] ++ [41])) := by
  rw [List.all_cons, Bool.and_eq_true] at h
  rw [text_4, List.map_cons, List.map_cons, Lib.join_cons]
  simp only [Tm.textF]
  rw [join_textF us h.2]
  simp [Tm.str, valid_of_value h.1]
/-- A row of strings. -/
def fStr (base n : Nat) (zs : List ByteArray) : VF := fun v w => w.ownsRow base 9 1 v n (zs.map Value.string) ∧ zs.length = n
theorem fStr_stays (base n : Nat) (zs : List ByteArray) : Stays (fStr base n zs) := fun _ _ _ h hb => ⟨own_grown' h.1 hb, h.2⟩
theorem fStr_at {base n : Nat} {zs : List ByteArray} {v : Value} {w : World} (h : fStr base n zs v w) (hne : n ≠ 0) : ∃ g c, v = .slice (some ⟨g, 0, none⟩) n c ∧ (∀ (j : Nat) x, zs[j]? = some x → w.cell? ⟨g, 0 + j, none⟩ = some (.string x)) ∧ g < w.heap.size ∧ zs.length ≤ c := by
  obtain ⟨ho, hl⟩ := h
  have ho0 := ho
  rcases ho.2 with ⟨rfl, h0⟩ | ⟨g, cap, cur, rfl, hb, hg, hc, _⟩
  · exact absurd h0 hne
  · refine ⟨g, cap, rfl, fun j x hx => ?_, (Array.getElem?_eq_some_iff.1 hg).1, by omega⟩
    have := ho0.cells (g := g) rfl j (.string x) (by rw [List.getElem?_map, hx]; rfl)
    rwa [Addr.add_lit] at this
theorem size1 (c : UInt8) : (⟨#[c]⟩ : ByteArray).size = 1 := rfl
theorem symbol_size {s : ByteArray} (h : symbolB s = true) : s.size ≤ 32 := by
  unfold symbolB at h
  simp only [Bool.and_eq_true] at h
  exact of_decide_eq_true h.1.1
set_option maxRecDepth 100000 in
set_option maxHeartbeats 4000000 in
theorem text_any (x : Ato) (av : Option Addr) (cap : Nat) (S : Nat → Prop) (w : World) (h : AtS S w (.string x.1) (.slice av x.2.length cap) x) (hS : ∀ b, S b → b < w.heap.size) (hcnt : cntA x ≤ 1000000) (hv : validA x = true) (hT : Tab10 w) :
    Calls Tryz.prog 85 #[.agg #[.string x.1, .slice av x.2.length cap]] w fun e w' => e = .returned (.string (atB x)) ∧ Below w.heap.size w w' := by
  obtain ⟨p, us⟩ := x
  have hr := h.args hS
  clear h
  have hv0 := hv
  unfold validA at hv
  simp only [Bool.and_eq_true, decide_eq_true_eq] at hv
  obtain ⟨⟨hs, hl8⟩, hall⟩ := hv
  have hp := symbol_size hs
  have hcl : Tm.countL us ≤ 1000000 := by simp only [cntA] at hcnt; omega
  have hlen : us.length ≤ 1000000 := by first | omega | (simp only at hl8; omega)
  obtain ⟨W1, hW1⟩ : ∃ W1, w.alloc (.cells #[.string p, .slice av us.length cap] 24) = W1 := ⟨_, rfl⟩
  have hB : Below w.heap.size w W1 := by rw [← hW1]; exact (Below.refl _ w).alloc (Nat.le_refl _) _
  have hq : W1.heap[w.heap.size]? = some (.cells #[.string p, .slice av us.length cap] 24 (0, 0)) := by rw [← hW1]; exact World.alloc_heap_new _ _
  have hz1 : w.heap.size < W1.heap.size := by rw [← hW1]; simp
  have x0 := cells_at hq 0 _ rfl
  have x1 := cells_at hq 1 _ rfl
  have HB := Lib.hid hB
  by_cases hne : us.length = 0
  · have hus : us = [] := List.length_eq_zero_iff.1 hne
    subst hus
    clear hr hall hcl hB hq hz1
    go_enter Tryz.func85, Tryz.ntmps85
    go_wp2
    go_ret
    refine ⟨?_, ?_⟩
    · show Ending.returned (.string p) = .returned (.string ⟨(p.data.toList).toArray⟩)
      rw [toArray_list]
    · exact (Below.refl _ w).alloc (Nat.le_refl _) _
  · have hpos : ¬ ((us.length : Int) = 0) := by omega
    have HR := Lib.hid (show us ≠ [] → ∃ b off, av = some ⟨b, off, none⟩ ∧ b < W1.heap.size ∧ IsTms W1.heap.size W1 b off us from fun hn => by
      obtain ⟨b, off, ha, hb, hi⟩ := hr hn
      exact ⟨b, off, ha, Nat.lt_of_lt_of_le hb hB.size, (hi.below hB hb).mono hB.size⟩)
    have hjl : (Lib.join ((us.map Tm.str).map (·.data.toList)) [44]).length ≤ 1000000000 := by
      have hlens : ∀ t ∈ us, t.text.length + 3 ≤ 24 * t.wt := by
        intro t ht
        obtain ⟨b, off, _, _, hi⟩ := HR.out (List.ne_nil_of_mem ht)
        obtain ⟨i, hil, rfl⟩ := List.mem_iff_getElem.1 ht
        obtain ⟨c0, c1, c2, c3, _, _, _, _, hc⟩ := hi.at i hil
        exact text_len _ _ _ _ _ _ _ hc
      have hF := textF_len us 44 hlens
      have hwt := wtL_le us (rqL_all hall)
      obtain ⟨u, us', rfl⟩ : ∃ u us', us = u :: us' := by
        cases us with
        | nil => simp at hne
        | cons u us' => exact ⟨u, us', rfl⟩
      have hj := congrArg List.length (text_join p u us' hall)
      rw [text_4] at hj
      simp only [List.length_append, List.length_cons, List.length_nil] at hj
      have hF2 : (Tm.textF 40 (u :: us')).length = (Tm.textF 44 (u :: us')).length := by simp [Tm.textF]
      omega
    obtain ⟨JB, hJB⟩ : ∃ JB : ByteArray, (⟨(Lib.join ((us.map Tm.str).map (·.data.toList)) [44]).toArray⟩ : ByteArray) = JB := ⟨_, rfl⟩
    have hJs : JB.size ≤ 1000000000 := by rw [← hJB]; exact hjl
    have hdt : (⟨#[44]⟩ : ByteArray).data.toList = [44] := rfl
    have HJ := Lib.hid (show (⟨(Lib.join ((us.map Tm.str).map (·.data.toList)) (⟨#[44]⟩ : ByteArray).data.toList).toArray⟩ : ByteArray) = JB from hJB)
    have HJL := Lib.hid (show (Lib.join ((us.map Tm.str).map (·.data.toList)) (⟨#[44]⟩ : ByteArray).data.toList).length ≤ 140737488355328 by rw [hdt]; omega)
    have HEQ := Lib.hid (show p ++ (⟨#[40]⟩ : ByteArray) ++ JB ++ (⟨#[41]⟩ : ByteArray) = atB (p, us) by
      obtain ⟨u, us', rfl⟩ : ∃ u us', us = u :: us' := by
        cases us with
        | nil => simp at hne
        | cons u us' => exact ⟨u, us', rfl⟩
      unfold atB atT
      simp only
      rw [text_join p u us' hall, ← hJB]
      apply ByteArray.ext
      apply Array.ext'
      simp)
    have HCL := Lib.hid hcl
    have HT := Lib.hid (hT.below hB)
    have HQ := Lib.hid hq
    have HZ1 := Lib.hid hz1
    have HNE := Lib.hid hne
    clear hr hall hcl hB hq hz1 hjl hJB hdt hne hT hcnt
    go_enter Tryz.func85, Tryz.ntmps85
    go_wp2_with fail
    have hst := @FL_grow [fV (.pointer (some ⟨w.heap.size, 0, none⟩)), fV (.string p), fV (.string (p ++ (⟨#[40]⟩ : ByteArray))), fV (.pointer (some ⟨w.heap.size, 1, none⟩)), fV (.slice av us.length cap), fStr W1.heap.size us.length (us.map Tm.str), fV (.string JB), fV (.string (p ++ (⟨#[40]⟩ : ByteArray) ++ JB)), fV (.string (p ++ (⟨#[40]⟩ : ByteArray) ++ JB ++ (⟨#[41]⟩ : ByteArray))), fV (.string (p ++ (⟨#[40]⟩ : ByteArray) ++ JB ++ (⟨#[41]⟩ : ByteArray)))] (by
      intro F hF
      simp only [List.mem_cons, List.not_mem_nil, or_false] at hF
      rcases hF with rfl | rfl | rfl | rfl | rfl | rfl | rfl | rfl | rfl | rfl <;> first | exact fV_stays _ | exact fStr_stays _ _ _)
    refine wp_region_grow (by kernel_rfl) (FL [fV (.pointer (some ⟨w.heap.size, 0, none⟩)), fV (.string p), fV (.string (p ++ (⟨#[40]⟩ : ByteArray))), fV (.pointer (some ⟨w.heap.size, 1, none⟩)), fV (.slice av us.length cap), fStr W1.heap.size us.length (us.map Tm.str), fV (.string JB), fV (.string (p ++ (⟨#[40]⟩ : ByteArray) ++ JB)), fV (.string (p ++ (⟨#[40]⟩ : ByteArray) ++ JB ++ (⟨#[41]⟩ : ByteArray))), fV (.string (p ++ (⟨#[40]⟩ : ByteArray) ++ JB ++ (⟨#[41]⟩ : ByteArray)))]) hst (by kernel_rfl) (steps_all ?_) ?_
    · refine ⟨?_, ?_, ?_, ?_, ?_, ?_, ?_, ?_, ?_, ?_, trivial⟩
      · intro a wx hb hd hs ho hp
        refine ⟨rfl, ?_⟩
        have h1 : a.tmps.getD 1 undef = .pointer (some ⟨w.heap.size, 0, none⟩) := (ho 1 (by kernel_rfl)).trans rfl
        unfold Oper.wp
        go_simp
        exact Stepped.at (v := .pointer (some ⟨w.heap.size, 0, none⟩)) (by first | rfl | simp) hd (Below.refl _ _) rfl
      · intro a wx hb hd hs ho hp
        refine ⟨rfl, ?_⟩
        have h9 : a.tmps.getD 9 undef = .pointer (some ⟨w.heap.size, 0, none⟩) := facts_at hp 0 9 (by kernel_rfl)
        have hx := (hb.block w.heap.size HZ1.out).trans HQ.out
        have x0 := cells_at hx 0 _ rfl
        unfold Oper.wp
        go_simp
        exact Stepped.at (v := .string p) (by first | rfl | simp) hd (Below.refl _ _) rfl
      · intro a wx hb hd hs ho hp
        refine ⟨rfl, ?_⟩
        have h10 : a.tmps.getD 10 undef = .string p := facts_at hp 1 10 (by kernel_rfl)
        unfold Oper.wp
        go_simp
        rw [if_neg (by first | omega | (simp only [ByteArray.size_append, size1] at *; omega))]
        go_simp
        exact Stepped.at (v := .string (p ++ (⟨#[40]⟩ : ByteArray))) (by first | rfl | simp) hd (Below.refl _ _) rfl
      · intro a wx hb hd hs ho hp
        refine ⟨rfl, ?_⟩
        have h1 : a.tmps.getD 1 undef = .pointer (some ⟨w.heap.size, 0, none⟩) := (ho 1 (by kernel_rfl)).trans rfl
        unfold Oper.wp
        go_simp
        exact Stepped.at (v := .pointer (some ⟨w.heap.size, 1, none⟩)) (by first | rfl | simp) hd (Below.refl _ _) rfl
      · intro a wx hb hd hs ho hp
        refine ⟨rfl, ?_⟩
        have h12 : a.tmps.getD 12 undef = .pointer (some ⟨w.heap.size, 1, none⟩) := facts_at hp 3 12 (by kernel_rfl)
        have hx := (hb.block w.heap.size HZ1.out).trans HQ.out
        have x1 := cells_at hx 1 _ rfl
        unfold Oper.wp
        go_simp
        exact Stepped.at (v := .slice av us.length cap) (by first | rfl | simp) hd (Below.refl _ _) rfl
      · intro a wx hb hd hs ho hp
        refine ⟨rfl, ?_⟩
        have h13 : a.tmps.getD 13 undef = .slice av us.length cap := facts_at hp 4 13 (by kernel_rfl)
        have hx := collectZ_any us av cap wx (fun hne => by obtain ⟨b, off, ha, hb1, hi⟩ := HR.out hne; exact ⟨b, off, ha, Nat.lt_of_lt_of_le hb1 hb.size, (hi.below hb hb1).mono hb.size⟩) HCL.out (HT.out.below hb)
        unfold Oper.wp
        go_simp
        refine hx.mono ?_
        rintro e w9 ⟨v, rfl, ho9, hb9⟩
        exact Stepped.at (v := v) rfl hd hb9 ⟨by rw [List.map_map]; exact own_mono hb.size ho9, by simp⟩
      · intro a wx hb hd hs ho hp
        refine ⟨rfl, ?_⟩
        have h14 := facts_at hp 5 14 (by kernel_rfl)
        obtain ⟨g, c, e14, hcells, hg, hc⟩ := fStr_at h14 HNE.out
        have hx := Tryz.strings_Join g 0 c (us.map Tm.str) ⟨#[44]⟩ wx hcells hg (by rw [List.length_map]; omega) hc HJL.out
        rw [List.length_map, HJ.out] at hx
        unfold Oper.wp
        go_simp
        refine hx.mono ?_
        rintro e w9 ⟨rfl, hb9⟩
        exact Stepped.at (v := .string JB) rfl hd hb9 rfl
      · intro a wx hb hd hs ho hp
        refine ⟨rfl, ?_⟩
        have h11 : a.tmps.getD 11 undef = .string (p ++ (⟨#[40]⟩ : ByteArray)) := facts_at hp 2 11 (by kernel_rfl)
        have h15 : a.tmps.getD 15 undef = .string JB := facts_at hp 6 15 (by kernel_rfl)
        have b16 : (p ++ (⟨#[40]⟩ : ByteArray)).size ≤ 1000 := by rw [ByteArray.size_append, size1]; omega
        unfold Oper.wp
        go_simp
        rw [if_neg (by first | omega | (simp only [ByteArray.size_append, size1] at *; omega))]
        go_simp
        exact Stepped.at (v := .string (p ++ (⟨#[40]⟩ : ByteArray) ++ JB)) (by first | rfl | simp) hd (Below.refl _ _) rfl
      · intro a wx hb hd hs ho hp
        refine ⟨rfl, ?_⟩
        have h16 : a.tmps.getD 16 undef = .string (p ++ (⟨#[40]⟩ : ByteArray) ++ JB) := facts_at hp 7 16 (by kernel_rfl)
        have b17 : (p ++ (⟨#[40]⟩ : ByteArray) ++ JB).size ≤ 2000000000 := by rw [ByteArray.size_append, ByteArray.size_append, size1]; omega
        unfold Oper.wp
        go_simp
        rw [if_neg (by first | omega | (simp only [ByteArray.size_append, size1] at *; omega))]
        go_simp
        exact Stepped.at (v := .string (p ++ (⟨#[40]⟩ : ByteArray) ++ JB ++ (⟨#[41]⟩ : ByteArray))) (by first | rfl | simp) hd (Below.refl _ _) rfl
      · intro a wx hb hd hs ho hp
        refine ⟨rfl, ?_⟩
        have h17 : a.tmps.getD 17 undef = .string (p ++ (⟨#[40]⟩ : ByteArray) ++ JB ++ (⟨#[41]⟩ : ByteArray)) := facts_at hp 8 17 (by kernel_rfl)
        unfold Oper.wp
        go_simp
        exact Stepped.at (v := .string (p ++ (⟨#[40]⟩ : ByteArray) ++ JB ++ (⟨#[41]⟩ : ByteArray))) (by first | rfl | simp) hd (Below.refl _ _) rfl
    intro ac W2 hJ
    obtain ⟨u9, f9⟩ : ∃ u, ac.tmps.getD 9 undef = u := ⟨_, rfl⟩
    obtain ⟨u10, f10⟩ : ∃ u, ac.tmps.getD 10 undef = u := ⟨_, rfl⟩
    obtain ⟨u11, f11⟩ : ∃ u, ac.tmps.getD 11 undef = u := ⟨_, rfl⟩
    obtain ⟨u12, f12⟩ : ∃ u, ac.tmps.getD 12 undef = u := ⟨_, rfl⟩
    obtain ⟨u13, f13⟩ : ∃ u, ac.tmps.getD 13 undef = u := ⟨_, rfl⟩
    obtain ⟨u14, f14⟩ : ∃ u, ac.tmps.getD 14 undef = u := ⟨_, rfl⟩
    obtain ⟨u15, f15⟩ : ∃ u, ac.tmps.getD 15 undef = u := ⟨_, rfl⟩
    obtain ⟨u16, f16⟩ : ∃ u, ac.tmps.getD 16 undef = u := ⟨_, rfl⟩
    obtain ⟨u17, f17⟩ : ∃ u, ac.tmps.getD 17 undef = u := ⟨_, rfl⟩
    have f2 : ac.tmps.getD 2 undef = .string (p ++ (⟨#[40]⟩ : ByteArray) ++ JB ++ (⟨#[41]⟩ : ByteArray)) := hJ.at_end 9 2 (by kernel_rfl)
    have hBelow := hJ.below
    obtain ⟨TT, DD⟩ := ac
    obtain rfl : DD = [] := hJ.defers
    have hE := slots_merge [false, false, true, false, false, false, false, false, false, true, true, true, true, true, true, true, true, true] 18 hJ.tmps rfl (by kernel_rfl) hJ.outer
    simp only [mergeFrom, Nat.zero_add, Nat.reduceAdd, f9, f10, f11, f12, f13, f14, f15, f16, f17, f2] at hE
    clear hst hJ f9 f10 f11 f12 f13 f14 f15 f16 f17 f2
    subst hE
    have HBW := Lib.hid (HB.out.trans (hBelow.mono (Nat.le_of_lt HZ1.out)))
    clear hBelow
    go_wp2
    go_ret
    exact ⟨by rw [← HEQ.out]; rfl, HBW.out⟩
theorem atB_size {x : Ato} {S : Nat → Prop} {w : World} {v0 v1 : Value} (h : AtS S w v0 v1 x) (hS : ∀ b, S b → b < w.heap.size) (hcnt : cntA x ≤ 1000000) (hv : validA x = true) : (atB x).size ≤ 1000000000 := by
  obtain ⟨p, us⟩ := x
  obtain ⟨a, c, rfl, rfl⟩ := h.shape
  have hr := h.args hS
  unfold validA at hv
  simp only [Bool.and_eq_true, decide_eq_true_eq] at hv
  obtain ⟨⟨hs, hl8⟩, hall⟩ := hv
  have hp := symbol_size hs
  have hcl : Tm.countL us ≤ 1000000 := by simp only [cntA] at hcnt; omega
  have e : (atB (p, us)).size = (atT (p, us)).text.length := by unfold atB; exact List.size_toArray ..
  rw [e]
  cases us with
  | nil =>
    have h1 : (atT (p, [])).text = p.data.toList := text_0 2 0 p [] (by decide)
    rw [h1, size_data]; omega
  | cons u us =>
    have hlens : ∀ t ∈ u :: us, t.text.length + 3 ≤ 24 * t.wt := by
      intro t ht
      obtain ⟨b, off, _, _, hi⟩ := hr (List.ne_nil_of_mem ht)
      obtain ⟨i, hil, rfl⟩ := List.mem_iff_getElem.1 ht
      obtain ⟨c0, c1, c2, c3, _, _, _, _, hc⟩ := hi.at i hil
      exact text_len _ _ _ _ _ _ _ hc
    have hF := textF_len (u :: us) 40 hlens
    have hwt := wtL_le (u :: us) (rqL_all hall)
    have h1 : (atT (p, u :: us)).text = p.data.toList ++ (Tm.textF 40 (u :: us) ++ [41]) := text_4 0 p (u :: us)
    rw [h1]
    simp only [List.length_append, List.length_cons, List.length_nil, size_data]
    omega
end Go.Proofs.YtcoieohbmkjpoaaGreatDoor
namespace Go.Proofs.YtcoieohbmkjpoaaGreatDoor
open Go.RowKit Go.Shelf Go.Maps
open Go.WideElems (Fit rd rg pl rd_key rd_val rg_of)
open Go.WideMaps (KeyLaw)
open Go.ChangeMaps (setBlock)
attribute [local go_sem] Oper.semAt_some

abbrev Sig := ByteArray × Nat
/-- A predicate as a map's key. -/
def sigB (s : Sig) : List UInt8 := keyBytes [.string s.1.data.toList, .int .i64 (s.2 : Int)]
def sigK (s : Sig) : Lit := .string (sigB s)
theorem few_sigs : Tryz.prog.types.size + 2 ≤ 10000 ∧ 41 < Tryz.prog.types.size ∧ 0 < Tryz.prog.types.size :=
  ⟨of_decide_eq_true (by kernel_rfl), of_decide_eq_true (by kernel_rfl), of_decide_eq_true (by kernel_rfl)⟩
theorem sig_keyed : Keyed Tryz.prog 41 := Keyed.of_law (deep_law_gate (by kernel_rfl) few_sigs.1 few_sigs.2.1 (by kernel_rfl) (by kernel_rfl))
def sigOkT (k : Option TypeDesc) : Bool := match k with
  | some (.struct fs) => (fs.toList.map fun f => (f.type, f.offset)) == [(9, 0), (3, 1)] && fs.all (fun f => f.name != "_")
  | _ => false
theorem sig_okT : sigOkT (Tryz.prog.underlying 41) = true := by kernel_rfl
theorem sig_fields : ∃ fs, Tryz.prog.underlying 41 = some (.struct fs) ∧ fs.all (fun f => f.name != "_") = true ∧ ∃ f g, fs.toList = [f, g] ∧ f.type = 9 ∧ f.offset = 0 ∧ g.type = 3 ∧ g.offset = 1 := by
  have h := sig_okT
  unfold sigOkT at h
  split at h
  · rename_i fs hfs
    rw [Bool.and_eq_true] at h
    refine ⟨fs, hfs, h.2, ?_⟩
    have h1 := beq_iff_eq.1 h.1
    have hlen : fs.toList.length = 2 := by have := congrArg List.length h1; simpa using this
    match hl : fs.toList, hlen with
    | [f, g], _ =>
      rw [hl] at h1
      simp at h1
      exact ⟨f, g, rfl, h1.1.1, h1.1.2, h1.2.1, h1.2.2⟩
  · cases h
theorem i64_len' {n : Nat} (h : n ≤ maxLen) : I64 (n : Int) := by
  have h' : -9223372036854775808 ≤ (n : Int) ∧ (n : Int) ≤ 9223372036854775807 := by unfold maxLen at h; omega
  unfold I64 Lit.wf
  simp only [Bool.and_eq_true, decide_eq_true_eq]
  exact h'
/-- A predicate that a map can hold. -/
def SigOk (s : Sig) : Prop := s.1.size ≤ maxLen ∧ s.2 ≤ maxLen
set_option maxRecDepth 100000 in
theorem sigK_of (s : Sig) (h : SigOk s) : keyOf Tryz.prog 41 (.agg #[.string s.1, .int .i64 s.2]) = some (sigK s) := by
  obtain ⟨fs, hu, hall, f, g, hfg, hf, hf0, hg, hg1⟩ := sig_fields
  have hs := h.1
  have hn : I64 (s.2 : Int) := i64_len' h.2
  have hc : Tryz.prog.cellsOf 41 = 2 := by kernel_rfl
  have hk : Tryz.prog.keyType 41 = true := by kernel_rfl
  have c1 : Tryz.prog.cellsOf 9 = 1 := by kernel_rfl
  have c2 : Tryz.prog.cellsOf 3 = 1 := by kernel_rfl
  have us : Tryz.prog.underlying 9 = some .string := by kernel_rfl
  have ui : Tryz.prog.underlying 3 = some (.int .i64) := by kernel_rfl
  obtain ⟨m, hm⟩ : ∃ m, Tryz.prog.types.size = m + 1 := ⟨Tryz.prog.types.size - 1, (Nat.sub_add_cancel few_sigs.2.2).symm⟩
  have hform : (Value.agg #[.string s.1, .int .i64 s.2]).formed Tryz.prog 41 = true := by simp [Value.formed, hu, hc]
  unfold keyOf
  rw [hu]
  simp only [hk, hform, Bool.and_self, if_true, Value.cells, hm]
  rw [Program.keyLits.eq_def]
  simp only [hu, hc, hall, hfg, List.length_cons, List.length_nil, true_and, if_true, Nat.reduceAdd, List.mapM_cons, List.mapM_nil, hf, hg, hf0, hg1, c1, c2]
  have k1 : Tryz.prog.keyLits (m + 1) 9 [.string s.1] = some [.string s.1.data.toList] := by rw [Program.keyLits.eq_def]; simp [us, hs]
  have k2 : Tryz.prog.keyLits (m + 1) 3 [.int .i64 (s.2 : Int)] = some [.int .i64 (s.2 : Int)] := by rw [Program.keyLits.eq_def]; simp [ui]; exact hn
  simp [k1, k2, sigK, sigB]
theorem sigK_inj {s t : Sig} (hs : SigOk s) (ht : SigOk t) (h : sigK s = sigK t) : s = t := by
  have := sig_keyed.inj (sigK_of s hs) (h ▸ sigK_of t ht)
  simp at this
  exact Prod.ext this.1 (by omega)
set_option maxRecDepth 100000 in
theorem sig_lits (m : Nat) (s : Sig) (h : SigOk s) : Tryz.prog.keyLits (m + 2) 41 [.string s.1, .int .i64 s.2] = some [.string s.1.data.toList, .int .i64 (s.2 : Int)] := by
  obtain ⟨fs, hu, hall, f, g, hfg, hf, hf0, hg, hg1⟩ := sig_fields
  have hs := h.1
  have hn : I64 (s.2 : Int) := i64_len' h.2
  have hc : Tryz.prog.cellsOf 41 = 2 := by kernel_rfl
  have c1 : Tryz.prog.cellsOf 9 = 1 := by kernel_rfl
  have c2 : Tryz.prog.cellsOf 3 = 1 := by kernel_rfl
  have us : Tryz.prog.underlying 9 = some .string := by kernel_rfl
  have ui : Tryz.prog.underlying 3 = some (.int .i64) := by kernel_rfl
  rw [Program.keyLits.eq_def]
  simp only [hu, hc, hall, hfg, List.length_cons, List.length_nil, true_and, if_true, Nat.reduceAdd, List.mapM_cons, List.mapM_nil, hf, hg, hf0, hg1, c1, c2]
  have k1 : Tryz.prog.keyLits (m + 1) 9 [.string s.1] = some [.string s.1.data.toList] := by rw [Program.keyLits.eq_def]; simp [us, hs]
  have k2 : Tryz.prog.keyLits (m + 1) 3 [.int .i64 (s.2 : Int)] = some [.int .i64 (s.2 : Int)] := by rw [Program.keyLits.eq_def]; simp [ui]; exact hn
  simp [k1, k2]
/-- A place: a predicate, a number, a text. -/
abbrev Pla := Sig × Int × ByteArray
def plaB (x : Pla) : List UInt8 := keyBytes [.string x.1.1.data.toList, .int .i64 (x.1.2 : Int), .int .i64 x.2.1, .string x.2.2.data.toList]
def plaK (x : Pla) : Lit := .string (plaB x)
def PlaOk (x : Pla) : Prop := SigOk x.1 ∧ I64 x.2.1 ∧ x.2.2.size ≤ maxLen
def plaOkT (k : Option TypeDesc) : Bool := match k with
  | some (.struct fs) => (fs.toList.map fun f => (f.type, f.offset)) == [(41, 0), (3, 2), (9, 3)] && fs.all (fun f => f.name != "_")
  | _ => false
theorem pla_okT : plaOkT (Tryz.prog.underlying 89) = true := by kernel_rfl
theorem pla_fields : ∃ fs, Tryz.prog.underlying 89 = some (.struct fs) ∧ fs.all (fun f => f.name != "_") = true ∧ ∃ f g k, fs.toList = [f, g, k] ∧ f.type = 41 ∧ f.offset = 0 ∧ g.type = 3 ∧ g.offset = 2 ∧ k.type = 9 ∧ k.offset = 3 := by
  have h := pla_okT
  unfold plaOkT at h
  split at h
  · rename_i fs hfs
    rw [Bool.and_eq_true] at h
    refine ⟨fs, hfs, h.2, ?_⟩
    have h1 := beq_iff_eq.1 h.1
    have hlen : fs.toList.length = 3 := by have := congrArg List.length h1; simpa using this
    match hl : fs.toList, hlen with
    | [f, g, k], _ =>
      rw [hl] at h1
      simp at h1
      exact ⟨f, g, k, rfl, h1.1.1, h1.1.2, h1.2.1.1, h1.2.1.2, h1.2.2.1, h1.2.2.2⟩
  · cases h
theorem many_types : 2 ≤ Tryz.prog.types.size ∧ 89 < Tryz.prog.types.size := ⟨of_decide_eq_true (by kernel_rfl), of_decide_eq_true (by kernel_rfl)⟩
theorem sig_law : KeyLaw Tryz.prog 41 := deep_law_gate (by kernel_rfl) few_sigs.1 few_sigs.2.1 (by kernel_rfl) (by kernel_rfl)
theorem pla_law : KeyLaw Tryz.prog 89 := deep_law_gate (by kernel_rfl) few_sigs.1 many_types.2 (by kernel_rfl) (by kernel_rfl)
theorem pla_keyed : Keyed Tryz.prog 89 := Keyed.of_law pla_law
set_option maxRecDepth 100000 in
theorem plaK_of (x : Pla) (h : PlaOk x) : keyOf Tryz.prog 89 (.agg #[.string x.1.1, .int .i64 x.1.2, .int .i64 x.2.1, .string x.2.2]) = some (plaK x) := by
  obtain ⟨fs, hu, hall, f, g, k, hfg, hf, hf0, hg, hg1, hk3, hk4⟩ := pla_fields
  have hc : Tryz.prog.cellsOf 89 = 4 := by kernel_rfl
  have hk : Tryz.prog.keyType 89 = true := by kernel_rfl
  have c1 : Tryz.prog.cellsOf 41 = 2 := by kernel_rfl
  have c2 : Tryz.prog.cellsOf 3 = 1 := by kernel_rfl
  have c3 : Tryz.prog.cellsOf 9 = 1 := by kernel_rfl
  have us : Tryz.prog.underlying 9 = some .string := by kernel_rfl
  have ui : Tryz.prog.underlying 3 = some (.int .i64) := by kernel_rfl
  have hi : I64 x.2.1 := h.2.1
  have hs : x.2.2.size ≤ maxLen := h.2.2
  obtain ⟨m, hm⟩ : ∃ m, Tryz.prog.types.size = m + 2 := ⟨Tryz.prog.types.size - 2, by have := many_types.1; omega⟩
  have hform : (Value.agg #[.string x.1.1, .int .i64 x.1.2, .int .i64 x.2.1, .string x.2.2]).formed Tryz.prog 89 = true := by simp [Value.formed, hu, hc]
  unfold keyOf
  rw [hu]
  simp only [hk, hform, Bool.and_self, if_true, Value.cells, hm]
  rw [Program.keyLits.eq_def]
  simp only [hu, hc, hall, hfg, List.length_cons, List.length_nil, true_and, if_true, Nat.reduceAdd, List.mapM_cons, List.mapM_nil, hf, hg, hf0, hg1, hk3, hk4, c1, c2, c3]
  have k1 := sig_lits m x.1 h.1
  have k2 : Tryz.prog.keyLits (m + 2) 3 [.int .i64 x.2.1] = some [.int .i64 x.2.1] := by rw [Program.keyLits.eq_def]; simp [ui]; exact hi
  have k3 : Tryz.prog.keyLits (m + 2) 9 [.string x.2.2] = some [.string x.2.2.data.toList] := by rw [Program.keyLits.eq_def]; simp [us, hs]
  simp [k1, k2, k3, plaK, plaB]
theorem plaK_inj {x y : Pla} (hx : PlaOk x) (hy : PlaOk y) (h : plaK x = plaK y) : x = y := by
  have := pla_keyed.inj (plaK_of x hx) (h ▸ plaK_of y hy)
  simp at this
  obtain ⟨h1, h2, h3, h4⟩ := this
  exact Prod.ext (Prod.ext h1 (by omega)) (Prod.ext h3 h4)
/-- A map holds just the keys of some elements. -/
def SetD {α : Type} (key : α → List UInt8) (D : DataW Unit) (names : List α) : Prop := ∃ es, D = .map es ∧ (∀ p ∈ es, ∃ s ∈ names, p.1 = .string (key s)) ∧ es.Pairwise (fun p q => p.1 ≠ q.1) ∧ (∀ s ∈ names, ∃ p ∈ es, p.1 = .string (key s)) ∧ es.length ≤ names.length
theorem SetD.nil {α : Type} (key : α → List UInt8) : SetD key (.map []) [] := ⟨[], rfl, by simp, List.Pairwise.nil, by simp, by simp⟩
theorem SetD.put {α : Type} {key : α → List UInt8} {D : DataW Unit} {names : List α} (h : SetD key D names) (s : α) (d : DataW Unit) : SetD key (D.put (.string (key s)) d) (names ++ [s]) := by
  obtain ⟨es, rfl, hk, hp, hm, hl⟩ := h
  have hperm := WideShapes.insert_perm (Lit.string (key s), d) (es.filter fun p => !p.1.sameKey (.string (key s)))
  have hne : ∀ q ∈ es.filter (fun p => !p.1.sameKey (.string (key s))), Lit.string (key s) ≠ q.1 := by
    intro q hq e
    have h2 := (List.mem_filter.1 hq).2
    rw [← e] at h2
    simp [Lit.sameKey] at h2
  refine ⟨_, rfl, ?_, ?_, ?_, by rw [hperm.length_eq]; have := List.length_filter_le (fun p : Lit × DataW Unit => !p.1.sameKey (.string (key s))) es; simp only [List.length_cons, List.length_append, List.length_nil]; omega⟩
  · intro p hp'
    rcases List.mem_cons.1 (hperm.mem_iff.1 hp') with rfl | h'
    · exact ⟨s, by simp, rfl⟩
    · obtain ⟨t, h1, h2⟩ := hk p (List.mem_filter.1 h').1
      exact ⟨t, List.mem_append_left _ h1, h2⟩
  · exact (hperm.pairwise_iff (fun {a b} (h : a.1 ≠ b.1) => h.symm)).2 (List.pairwise_cons.2 ⟨hne, hp.filter _⟩)
  · intro x hx
    by_cases e : key x = key s
    · exact ⟨(Lit.string (key s), d), hperm.mem_iff.2 (List.mem_cons_self ..), by rw [e]⟩
    · have : x ∈ names := by
        rcases List.mem_append.1 hx with h | h
        · exact h
        · exact absurd (by rw [List.mem_singleton.1 h]) e
      obtain ⟨p, hp', hx'⟩ := hm x this
      refine ⟨p, hperm.mem_iff.2 (List.mem_cons_of_mem _ (List.mem_filter.2 ⟨hp', ?_⟩)), hx'⟩
      rw [hx']; simp [Lit.sameKey, e]
theorem ownsMap_same {H : Type} {w w' : World} {P : Program} {k : TypeId} {R : Value → Option (DataW H × List MemPlace)} {b n : Nat} {D : DataW H} (h : w.ownsMap P k R b n D) (hb : w'.heap[b]? = w.heap[b]?) : w'.ownsMap P k R b n D := by
  obtain ⟨es, clock, h1, h2⟩ := h
  exact ⟨es, clock, hb.trans h1, h2⟩
theorem setBlock_inj {w : World} {b : Nat} {o o' : Obj} (hb : b < w.heap.size) (h : setBlock w b o = setBlock w b o') : o = o' := by
  have h1 := congrArg (fun x : World => x.heap[b]?) h
  simpa [setBlock, hb] using h1
theorem setBlock_grown (w : World) (b : Nat) (o : Obj) : w.grownBy (setBlock w b o) (some b) :=
  ⟨rfl, rfl, rfl, by simp [setBlock], fun i hi hne => by
    have : i ≠ b := fun e => hne (by rw [e])
    simp [setBlock, Array.getElem?_setIfInBounds_ne (Ne.symm this)]⟩
/-- A slice of the store's own, told as it stands. -/
def slE (v : Value) : Option (DataW Unit × List MemPlace) := match v with
  | .slice none 0 0 => some (.nil, [])
  | .slice (some ⟨g, 0, none⟩) n c => some (.slice [.lit (.int .i64 (g : Int)), .lit (.int .i64 (n : Int)), .lit (.int .i64 (c : Int))] [], [])
  | _ => none
def SlV (v : Value) : Prop := v = .slice none 0 0 ∨ ∃ g n c, v = .slice (some ⟨g, 0, none⟩) n c
def slD : Value → DataW Unit
  | .slice (some a) n c => .slice [.lit (.int .i64 (a.block : Int)), .lit (.int .i64 (n : Int)), .lit (.int .i64 (c : Int))] []
  | _ => .nil
theorem slE_of {v : Value} (h : SlV v) : slE v = some (slD v, []) := by
  rcases h with rfl | ⟨g, n, c, rfl⟩ <;> rfl
theorem slE_inj {v u : Value} {ps : List MemPlace} (hu : SlV u) (h : slE v = some (slD u, ps)) : v = u := by
  unfold slE at h
  split at h
  · rcases hu with rfl | ⟨g, n, c, rfl⟩
    · rfl
    · simp [slD] at h
  · rename_i g n c
    rcases hu with rfl | ⟨g', n', c', rfl⟩
    · simp [slD] at h
    · simp [slD] at h
      obtain ⟨⟨h1, h2, h3⟩, _⟩ := h
      have h1' : g = g' := by omega
      have h2' : n = n' := by omega
      have h3' : c = c' := by omega
      rw [h1', h2', h3']
  · cases h
theorem own_SlV {w : World} {base : Nat} {e : TypeId} {size : Nat} {v : Value} {n : Nat} {xs : List Value} (h : w.ownsRow base e size v n xs) : SlV v := by
  rcases h.2 with ⟨rfl, _⟩ | ⟨g, cap, cur, rfl, _⟩
  · exact Or.inl rfl
  · exact Or.inr ⟨g, n, cap, rfl⟩
/-- m[k] = append(m[k], x) as an entry and a store into it. -/
theorem entry_own {P : Program} {k e t : TypeId} {w : World} {b n : Nat} {D : DataW Unit} {key : Value} {kl : Lit} {v : Value} (K : KeyLaw P k) (ht : P.underlying t = some (.map k e)) (hz : ∀ u : World, (zeroValue e).run P u = .ok (.slice none 0 0) u)
    (h : w.ownsMap P k slE b n D) (hn : n < maxLen) (hkey : keyOf P k key = some kl) (hc : D.atKey kl .nil = slD v) (hv : SlV v) :
    ∃ (st : Nat) (es1 : Array MapEntry) (clock1 : Nat), (Instr.mapEntry t (.map (some b)) key).run P w = .ok (.tuple #[v, goInt st]) (setBlock w b (.map es1 clock1)) ∧
      ∀ (w2 : World) (val : Value), w2.heap[b]? = some (.map es1 clock1) → SlV val → ∃ w3, (Instr.entryStore t (.map (some b)) (goInt st) val).run P w2 = .ok () w3 ∧ w3.ownsMap P k slE b (n + 1) (D.put kl (slD val)) ∧ w2.grownBy w3 (some b) := by
  have KK : Keyed P k := Keyed.of_law K
  have hown := h
  obtain ⟨es, clock, hb, F, hs, hD⟩ := h
  have hbl := (Array.getElem?_eq_some_iff.1 hb).1
  obtain ⟨v0, st, es1, clock1, hrun, hor, hst⟩ := Go.WideElems.entry_then_store (P := P) (t := t) (R := slE) K ht hz hb F hkey
  have hv0 : v0 = v := by
    have hex : ∃ ps, slE v0 = some (slD v, ps) := by
      rcases Maps.fit_look false KK ht (hz w) hb F hkey with ⟨_, hno, hat⟩ | ⟨e0, y, hm, hk0, hlk0, hRv, hat, huniq⟩
      · rw [hD] at hc
        rw [hat .nil] at hc
        rcases hor with ⟨e1, hm1, hk1, rfl⟩ | ⟨_, rfl⟩
        · exact absurd hk1 (hno e1 hm1)
        · exact ⟨[], by rw [← hc]; rfl⟩
      · rw [hD] at hc
        rw [hat .nil] at hc
        have hlk := hlk0
        rcases K.find w hkey es.toList F.keys with ⟨f1, f2⟩ | ⟨j, e1, f1, f2, f3⟩
        · exact absurd hk0 (f2 e0 hm)
        · have hj : es[j]? = some e1 := by simpa using f2
          have hsame : es.modify j (fun e => { e with key := key }) = es := by
            apply Array.ext'
            rw [Array.toList_modify, Go.ChangeMaps.modify_eq_set _ _ _ _ f2]
            have : ({ e1 with key := key } : MapEntry) = e1 := by rw [← f3]
            rw [this]
            exact Go.WideElems.set_self _ _ _ f2
          have h2 : (Instr.mapEntry t (.map (some b)) key).run P w = .ok (.tuple #[e1.val, goInt e1.born]) (setBlock w b (.map es clock)) := by
            simp [Instr.mapEntry, run_underlying ht, MapKept.run_getObj_map hb, K.check w false hkey, f1, hj, f3, K.stays w hkey, hsame, MapKept.run_setObj_map _ hb, Result.andThen, setBlock]
          rw [h2] at hrun
          have h3 := (Result.ok.inj hrun).1
          have h4 : (Instr.lookup t (.map (some b)) key false).run P w = .ok e1.val w := by
            simp [Instr.lookup, run_underlying ht, MapKept.run_getObj_map hb, K.check w _ hkey, f1, Result.andThen]
          rw [h4] at hlk
          have h5 : e1.val = e0.val := by simpa using (Result.ok.inj hlk).1
          have h6 : v0 = e1.val := by simp at h3; exact h3.1.symm
          exact ⟨y.2, by rw [h6, h5, hRv, ← hc]⟩
    obtain ⟨ps, hps⟩ := hex
    exact slE_inj hv hps
  subst hv0
  refine ⟨st, es1, clock1, hrun, fun w2 val hw2 hval => ?_⟩
  obtain ⟨es', clock', q1, q2⟩ := hst w2 val hw2
  obtain ⟨w3, r1, r2, _⟩ := hown.update KK ht hn hkey (slE_of hval)
  rw [q2] at r1
  have hw3 := (Result.ok.inj r1).2
  have hbl2 := (Array.getElem?_eq_some_iff.1 hw2).1
  refine ⟨_, q1, ownsMap_same r2 ?_, setBlock_grown _ _ _⟩
  rw [← hw3]
  simp [setBlock, hbl, hbl2]
end Go.Proofs.YtcoieohbmkjpoaaGreatDoor
namespace Go.Proofs.YtcoieohbmkjpoaaGreatDoor
open Go.RowKit Go.Shelf Go.Maps
attribute [local go_sem] Oper.semAt_some

/-- Whose a block is. -/
inductive Lbl where
  | free | obj | lst | num | sgm | arm | rowS (g : Sig) | rowP (p : Pla) | oth
/-- What a store of its own writes. -/
def Own (l : Lbl) : Prop := l ≠ .free ∧ l ≠ .oth
abbrev Lab := Nat → Lbl
/-- What may turn: blocks with a label of X. -/
structure Stp (lab : Lab) (X : Lbl → Prop) (w w' : World) : Prop where
  os : w'.os = w.os
  tape : w'.tape = w.tape
  output : w'.output = w.output
  size : w.heap.size ≤ w'.heap.size
  block : ∀ b, b < w.heap.size → ¬ X (lab b) → w'.heap[b]? = w.heap[b]?
theorem Stp.of_below {lab : Lab} {X : Lbl → Prop} {w w' : World} (h : Below w.heap.size w w') : Stp lab X w w' := ⟨h.os, h.tape, h.output, h.size, fun b hb _ => h.block b hb⟩
theorem Stp.of_grown {lab : Lab} {X : Lbl → Prop} {w w' : World} {r : Option Nat} (h : w.grownBy w' r) (hr : ∀ b, r = some b → b < w.heap.size → X (lab b)) : Stp lab X w w' :=
  ⟨h.os, h.tape, h.output, h.size, fun b hb hX => h.block b hb fun e => hX (hr b e.symm hb)⟩
theorem Stp.trans {lab lab' : Lab} {X : Lbl → Prop} {a b c : World} (h : Stp lab X a b) (k : Stp lab' X b c) (hl : ∀ i, i < a.heap.size → lab' i = lab i) : Stp lab X a c :=
  ⟨k.os.trans h.os, k.tape.trans h.tape, k.output.trans h.output, Nat.le_trans h.size k.size, fun i hi hX => (k.block i (Nat.lt_of_lt_of_le hi h.size) (by rw [hl i hi]; exact hX)).trans (h.block i hi hX)⟩
theorem Stp.imp {lab : Lab} {X Y : Lbl → Prop} {w w' : World} (h : Stp lab X w w') (hX : ∀ l, X l → Y l) : Stp lab Y w w' := ⟨h.os, h.tape, h.output, h.size, fun b hb hY => h.block b hb fun hx => hY (hX _ hx)⟩
theorem Stp.refl (lab : Lab) (X : Lbl → Prop) (w : World) : Stp lab X w w := ⟨rfl, rfl, rfl, Nat.le_refl _, fun _ _ _ => rfl⟩
/-- Atoms in a row, two cells each. -/
def FlatA (S : Nat → Prop) (w : World) : List Value → List Ato → Prop
  | xs, [] => xs = []
  | xs, x :: L => ∃ v0 v1 ys, xs = v0 :: v1 :: ys ∧ AtS S w v0 v1 x ∧ FlatA S w ys L
theorem FlatA.same {S S' : Nat → Prop} {w w' : World} (hS : ∀ b, S b → S' b) (hk : ∀ b, S b → w'.heap[b]? = w.heap[b]?) : ∀ {L : List Ato} {xs : List Value}, FlatA S w xs L → FlatA S' w' xs L
  | [], _, h => h
  | t :: ts, xs, h => by
    obtain ⟨c0, c1, ys, e, h1, h2⟩ := h
    exact ⟨c0, c1, ys, e, h1.same hS hk, h2.same hS hk⟩
theorem FlatA.snoc {S : Nat → Prop} {w : World} {v0 v1 : Value} {x : Ato} (hx : AtS S w v0 v1 x) : ∀ {L : List Ato} {xs : List Value}, FlatA S w xs L → FlatA S w (xs ++ [v0, v1]) (L ++ [x])
  | [], xs, h => by
    rw [show xs = [] from h]
    exact ⟨v0, v1, [], rfl, hx, rfl⟩
  | u :: L, xs, h => by
    obtain ⟨d0, d1, ys, e, h1, h2⟩ := h
    subst e
    exact ⟨d0, d1, ys ++ [v0, v1], rfl, h1, FlatA.snoc hx h2⟩
theorem FlatA.at {S : Nat → Prop} {w : World} : ∀ {L : List Ato} {xs : List Value}, FlatA S w xs L → ∀ i (h : i < L.length), ∃ v0 v1, xs[i * 2]? = some v0 ∧ xs[i * 2 + 1]? = some v1 ∧ AtS S w v0 v1 L[i]
  | x :: r, xs, ⟨v0, v1, ys, e, h1, h⟩, i, hi => by
    subst e
    cases i with
    | zero => exact ⟨v0, v1, rfl, rfl, h1⟩
    | succ i =>
      have := h.at i (by simpa using hi)
      rw [show (i + 1) * 2 = i * 2 + 2 by omega]
      simpa using this
/-- The numbers of the atoms with a property. -/
def ix (q : Ato → Bool) (L : List Ato) : List Nat := (List.range L.length).filter fun i => ((L[i]?).map q).getD false
theorem ix_nil (q : Ato → Bool) : ix q [] = [] := rfl
theorem ix_snoc (q : Ato → Bool) (L : List Ato) (x : Ato) : ix q (L ++ [x]) = ix q L ++ (if q x then [L.length] else []) := by
  unfold ix
  rw [List.length_append, List.length_singleton, List.range_succ, List.filter_append]
  congr 1
  · refine List.filter_congr fun i hi => ?_
    rw [List.getElem?_append_left (List.mem_range.1 hi)]
  · by_cases h : q x = true <;> simp [h]
theorem ix_lt {q : Ato → Bool} {L : List Ato} {i : Nat} (h : i ∈ ix q L) : i < L.length := List.mem_range.1 (List.mem_filter.1 h).1
theorem ix_len (q : Ato → Bool) (L : List Ato) : (ix q L).length ≤ L.length := by
  have := List.length_filter_le (fun i => ((L[i]?).map q).getD false) (List.range L.length)
  unfold ix; simpa using this
def sgOf (x : Ato) : Sig := (x.1, x.2.length)
def places (x : Ato) : List Pla := (List.range x.2.length).map fun i : Nat => (sgOf x, (i : Int), ((x.2[i]?).map Tm.str).getD ⟨#[]⟩)
def qS (g : Sig) (x : Ato) : Bool := decide (sgOf x = g)
open Classical in
noncomputable def qP (p : Pla) (x : Ato) : Bool := decide (p ∈ places x)
/-- A row of numbers. -/
def IntR (w : World) (v : Value) (is : List Nat) : Prop := w.ownsRow 0 3 1 v is.length (is.map fun i : Nat => Value.int .i64 (i : Int))
def LstI (w : World) (lab : Lab) (lv : Value) (L : List Ato) : Prop := ∃ xs, w.ownsRow 0 24 2 lv L.length xs ∧ FlatA (fun b => b < w.heap.size ∧ lab b = .free) w xs L ∧ ∀ b, lv.ownBlock = some b → lab b = .lst
def strB (t : ByteArray) : List UInt8 := t.data.toList
def NumI (w : World) (m n : Nat) (L : List Ato) : Prop := ∃ D : DataW Unit, w.ownsMap Tryz.prog 9 (plainElem (H := Unit) Tryz.prog 3) m n D ∧ SetD strB D (L.map atB)
def SigI (w : World) (lab : Lab) (m n : Nat) (L : List Ato) : Prop := ∃ (D : DataW Unit) (val : Sig → Value), w.ownsMap Tryz.prog 41 slE m n D ∧ SetD sigB D (L.map sgOf) ∧
  ∀ g, SigOk g → D.atKey (sigK g) .nil = slD (val g) ∧ IntR w (val g) (ix (qS g) L) ∧ ∀ b, (val g).ownBlock = some b → lab b = .rowS g
def ArgI (w : World) (lab : Lab) (m n : Nat) (f : Pla → List Nat) : Prop := ∃ (D : DataW Unit) (val : Pla → Value), w.ownsMap Tryz.prog 89 slE m n D ∧ IsMap D ∧
  ∀ p, PlaOk p → D.atKey (plaK p) .nil = slD (val p) ∧ IntR w (val p) (f p) ∧ ∀ b, (val p).ownBlock = some b → lab b = .rowP p
theorem own_stp {lab : Lab} {X : Lbl → Prop} {w w' : World} (hs : Stp lab X w w') {base : Nat} {e : TypeId} {size : Nat} {v : Value} {n : Nat} {xs : List Value} (h : w.ownsRow base e size v n xs) (hX : ∀ b, v.ownBlock = some b → ¬ X (lab b)) : w'.ownsRow base e size v n xs := by
  obtain ⟨h1, h2⟩ := h
  refine ⟨h1, ?_⟩
  rcases h2 with h2 | ⟨g, cap, cur, rfl, q1, q2, q3⟩
  · exact Or.inl h2
  · exact Or.inr ⟨g, cap, cur, rfl, q1, (hs.block g (Array.getElem?_eq_some_iff.1 q2).1 (hX g rfl)).trans q2, q3⟩
theorem LstI.step {w w' : World} {lab lab' : Lab} {lv : Value} {L : List Ato} {X : Lbl → Prop} (h : LstI w lab lv L) (hs : Stp lab X w w') (h1 : ¬ X .lst) (h2 : ¬ X .free) (hl : ∀ b, b < w.heap.size → lab' b = lab b) : LstI w' lab' lv L := by
  obtain ⟨xs, ho, hf, hb⟩ := h
  refine ⟨xs, own_stp hs ho (fun b e => by rw [hb b e]; exact h1), hf.same (fun b h => ⟨Nat.lt_of_lt_of_le h.1 hs.size, by rw [hl b h.1]; exact h.2⟩) (fun b h => hs.block b h.1 (by rw [h.2]; exact h2)), fun b e => ?_⟩
  rw [hl b (own_block ho b e).2]; exact hb b e
theorem NumI.step {w w' : World} {lab : Lab} {m n : Nat} {L : List Ato} {X : Lbl → Prop} (h : NumI w m n L) (hs : Stp lab X w w') (h1 : ¬ X (lab m)) : NumI w' m n L := by
  obtain ⟨D, ho, hd⟩ := h
  exact ⟨D, ownsMap_same ho (hs.block m ho.lt h1), hd⟩
theorem SigI.step {w w' : World} {lab lab' : Lab} {m n : Nat} {L : List Ato} {X : Lbl → Prop} (h : SigI w lab m n L) (hs : Stp lab X w w') (h1 : ¬ X (lab m)) (h2 : ∀ g, ¬ X (.rowS g)) (hl : ∀ b, b < w.heap.size → lab' b = lab b) : SigI w' lab' m n L := by
  obtain ⟨D, val, ho, hd, hv⟩ := h
  refine ⟨D, val, ownsMap_same ho (hs.block m ho.lt h1), hd, fun g hg => ?_⟩
  obtain ⟨q1, q2, q3⟩ := hv g hg
  refine ⟨q1, own_stp hs q2 (fun b e => by rw [q3 b e]; exact h2 g), fun b e => ?_⟩
  rw [hl b (own_block q2 b e).2]; exact q3 b e
theorem ArgI.step {w w' : World} {lab lab' : Lab} {m n : Nat} {f : Pla → List Nat} {X : Lbl → Prop} (h : ArgI w lab m n f) (hs : Stp lab X w w') (h1 : ¬ X (lab m)) (h2 : ∀ p, ¬ X (.rowP p)) (hl : ∀ b, b < w.heap.size → lab' b = lab b) : ArgI w' lab' m n f := by
  obtain ⟨D, val, ho, hd, hv⟩ := h
  refine ⟨D, val, ownsMap_same ho (hs.block m ho.lt h1), hd, fun g hg => ?_⟩
  obtain ⟨q1, q2, q3⟩ := hv g hg
  refine ⟨q1, own_stp hs q2 (fun b e => by rw [q3 b e]; exact h2 g), fun b e => ?_⟩
  rw [hl b (own_block q2 b e).2]; exact q3 b e
/-- Block S of the world is a store of the atoms; what it writes lies from B on, as the labels say. -/
structure StI (w : World) (B : Nat) (lab : Lab) (S : Nat) (L : List Ato) : Prop where
  tab : Tab10 w
  base : 3 < B
  mine : ∀ b, lab b ≠ .free → B ≤ b ∧ b < w.heap.size
  good : ∀ x ∈ L, validA x = true ∧ cntA x ≤ 1000000
  len : L.length ≤ 2000
  mem : ∃ lv m1 m2 m3 n3, w.heap[S]? = some (.cells #[lv, .map (some m1), .map (some m2), .map (some m3), .pointer (some ⟨S, 0, none⟩)] 59 (0, 0)) ∧
    lab S = .obj ∧ lab m1 = .num ∧ lab m2 = .sgm ∧ lab m3 = .arm ∧ LstI w lab lv L ∧ NumI w m1 L.length L ∧ SigI w lab m2 L.length L ∧ ArgI w lab m3 n3 (fun p => ix (qP p) L) ∧ n3 ≤ 8 * L.length
theorem StI.below {w w' : World} {B : Nat} {lab : Lab} {S : Nat} {L : List Ato} (h : StI w B lab S L) (hb : Below w.heap.size w w') : StI w' B lab S L := by
  obtain ⟨lv, m1, m2, m3, n3, h0, hS, l1, l2, l3, p1, p2, p3, p4, p5⟩ := h.mem
  have hs : Stp lab (fun _ => False) w w' := Stp.of_below hb
  refine ⟨h.tab.below hb, h.base, fun b e => ⟨(h.mine b e).1, Nat.lt_of_lt_of_le (h.mine b e).2 hb.size⟩, h.good, h.len, lv, m1, m2, m3, n3, (hb.block S (Array.getElem?_eq_some_iff.1 h0).1).trans h0, hS, l1, l2, l3, p1.step hs id id (fun _ _ => rfl), p2.step hs id, p3.step hs id (fun _ => id) (fun _ _ => rfl), p4.step hs id (fun _ => id) (fun _ _ => rfl), p5⟩
theorem Stp.low {lab : Lab} {w w' : World} {B : Nat} (hs : Stp lab Own w w') (hB : B ≤ w.heap.size) (hm : ∀ b, lab b ≠ .free → B ≤ b) : Below B w w' :=
  ⟨hs.os, hs.tape, hs.output, hs.size, fun k hk => hs.block k (by omega) fun h => by have := hm k h.1; omega⟩
end Go.Proofs.YtcoieohbmkjpoaaGreatDoor
namespace Go.Proofs.YtcoieohbmkjpoaaGreatDoor
open Go.RowKit

structure HeadInvR (ops : Array Oper) (n m : Nat) (R : World → World → Prop) (Φ : Facts) (a0 : Act) (w0 : World) (listed : Array Bool) (a : Act) (w : World) : Prop where
  below : R w0 w
  early : listed.getD m false = false → Below w0.heap.size w0 w
  defers : a.defers = a0.defers
  tmps : a.tmps.size = a0.tmps.size
  outer : ∀ t, noDstTo ops n t = true → a.tmps.getD t undef = a0.tmps.getD t undef
  facts : ∀ i o d, ops[i]? = some o → i < n → listed.getD i false = true → o.dst = some d → Φ i (a.tmps.getD d undef) w
/-- Where operation i has come to, and which facts it leaves. -/
def SteppedR (ops : Array Oper) (m : Nat) (R : World → World → Prop) (Φ : Facts) (_ : World) (i : Nat) (o : Oper) (a : Act) (w : World) (a' : Act) (w' : World) : Prop :=
  ∃ v, a' = a.put o.dst v ∧ (if i = m then R w w' else Below w.heap.size w w') ∧ (∀ d, o.dst = some d → Φ i v w') ∧ ∀ j u, j ≠ i → waitsT ops ops.size j i = false → Φ j u w → Φ j u w'
def StepToR (P : Program) (ops : Array Oper) (n m : Nat) (R : World → World → Prop) (Q : Exit → Act → World → Prop) (Φ : Facts) (a0 : Act) (w0 : World) (i : Nat) (o : Oper) : Prop :=
  ∀ a w, R w0 w → ((i = m ∨ waitsT ops ops.size m i = true) → Below w0.heap.size w0 w) → a.defers = a0.defers → a.tmps.size = a0.tmps.size →
    (∀ t, noDstTo ops n t = true → a.tmps.getD t undef = a0.tmps.getD t undef) →
    (∀ j oj d, waitsFor o j = true → ops[j]? = some oj → oj.dst = some d → Φ j (a.tmps.getD d undef) w) →
    Region.wanted o (yielded ops a.tmps) = true ∧ o.wp P a w (SteppedR ops m R Φ w0 i o a w) Q
theorem SteppedR.at {ops : Array Oper} {m : Nat} {R : World → World → Prop} {Φ : Facts} {w0 : World} {i : Nat} {o : Oper} {a : Act} {w w' : World} {v : Value} {tm : Array Value} {df : List Deferred} (hv : tm = (a.put o.dst v).tmps) (hf : a.defers = df) (him : i ≠ m) (hb : Below w.heap.size w w') (hΦ : Φ i v w')
    (hst : ∀ i v w w', Φ i v w → Below w.heap.size w w' → Φ i v w') : SteppedR ops m R Φ w0 i o a w ⟨tm, df⟩ w' := by
  refine ⟨v, ?_, by rw [if_neg him]; exact hb, fun _ _ => hΦ, fun j u _ _ h => hst j u w w' h hb⟩
  subst hv hf
  cases o.dst <;> rfl
theorem SteppedR.call {ops : Array Oper} {m : Nat} {R : World → World → Prop} {Φ : Facts} {w0 : World} {i : Nat} {o : Oper} {a : Act} {w w' : World} {v : Value} {tm : Array Value} {df : List Deferred} (hv : tm = (a.put o.dst v).tmps) (hf : a.defers = df) (him : i = m) (hr : R w w') (hΦ : Φ i v w')
    (hst : ∀ j u, j ≠ i → waitsT ops ops.size j i = false → Φ j u w → Φ j u w') : SteppedR ops m R Φ w0 i o a w ⟨tm, df⟩ w' := by
  refine ⟨v, ?_, by rw [if_pos him]; exact hr, fun _ _ => hΦ, hst⟩
  subst hv hf
  cases o.dst <;> rfl
theorem HeadInvR.put {ops : Array Oper} {n m : Nat} {R : World → World → Prop} {Φ : Facts} {a0 : Act} {w0 : World} (hRb : ∀ w w', Below w.heap.size w w' → R w w') (hRt : ∀ a b c, R a b → R b c → R a c) (hRs : ∀ a b, R a b → a.heap.size ≤ b.heap.size) (hok : regionOk ops a0.tmps.size = true)
    {listed : Array Bool} {a : Act} {w : World} (hls : listed.size = ops.size) (hcl : ListedOk ops listed) (hJ : HeadInvR ops n m R Φ a0 w0 listed a w) {i : Nat} {o : Oper} (hin : i < n) (ho : ops[i]? = some o) (hil : listed.getD i false = false) {v : Value} {w' : World} (hb : (if i = m then R w w' else Below w.heap.size w w')) (hv : ∀ d, o.dst = some d → Φ i v w')
    (hk : ∀ j u, j ≠ i → waitsT ops ops.size j i = false → Φ j u w → Φ j u w') :
    HeadInvR ops n m R Φ a0 w0 (listed.setIfInBounds i true) (a.put o.dst v) w' := by
  have hi := (Array.getElem?_eq_some_iff.1 ho).1
  refine ⟨?_, ?_, ?_, ?_, ?_, ?_⟩
  · by_cases e : i = m
    · rw [if_pos e] at hb; exact hRt _ _ _ hJ.below hb
    · rw [if_neg e] at hb; exact hRt _ _ _ hJ.below (hRb _ _ hb)
  · intro hm
    by_cases e : i = m
    · subst e
      simp [Array.getD_eq_getD_getElem?, hls, hi] at hm
    · rw [if_neg e] at hb
      rw [getD_set_ne (fun h => e h.symm)] at hm
      exact (hJ.early hm).trans (hb.mono (hRs _ _ hJ.below))
  · rw [← hJ.defers]; cases o.dst <;> rfl
  · rw [← hJ.tmps]; cases o.dst <;> simp [Act.put]
  · intro t ht
    rw [← hJ.outer t ht]
    cases hd : o.dst with
    | none => rfl
    | some d =>
      have hne : d ≠ t := fun e => noDstTo_spec ht i hin o ho (by rw [hd, e])
      simp [Act.put, Array.getD_eq_getD_getElem?, Array.getElem?_setIfInBounds_ne hne]
  · intro j oj d hoj hjn hlj hd
    by_cases hji : j = i
    · subst hji
      obtain rfl : oj = o := by rw [ho] at hoj; exact (Option.some.inj hoj).symm
      have hdn := ((regionOk_spec hok j oj ho).2 d hd).1
      rw [hd]
      have e : (a.put (some d) v).tmps.getD d undef = v := by
        have : d < a.tmps.size := by rw [hJ.tmps]; exact hdn
        simp [Act.put, Array.getD_eq_getD_getElem?, this]
      rw [e]
      exact hv d hd
    · have hlj' : listed.getD j false = true := by
        simpa [Array.getD_eq_getD_getElem?, Array.getElem?_setIfInBounds_ne (fun e => hji e.symm)] using hlj
      have hwt : waitsT ops ops.size j i = false := by
        cases hq : waitsT ops ops.size j i with
        | false => rfl
        | true =>
          have := waits_listed hcl i ops.size j oj hoj (hcl j oj hoj hlj') hq
          rw [this] at hil; cases hil
      have hf0 := hk j _ hji hwt (hJ.facts j oj d hoj hjn hlj' hd)
      cases hd' : o.dst with
      | none => exact hf0
      | some d' =>
        have hne : d' ≠ d := by
          intro e
          subst e
          rcases Nat.lt_or_gt_of_ne hji with h | h
          · exact ((regionOk_spec hok i o ho).2 d' hd').2 j oj h hoj hd
          · exact ((regionOk_spec hok j oj hoj).2 d' hd).2 i o h ho hd'
        simpa [Act.put, Array.getD_eq_getD_getElem?, Array.getElem?_setIfInBounds_ne hne] using hf0

/-- The rule: a head in any order, in which an operation may end another's fact; then a tail. -/
theorem wp_region_rel_tail {P : Program} {ops : Array Oper} {Q : Exit → Act → World → Prop} {id : Nat} {a0 : Act} {w0 : World} (hm : P.follows .mixedOrders = true) (n m : Nat) (R : World → World → Prop) (hRb : ∀ w w', Below w.heap.size w w' → R w w') (hRt : ∀ a b c, R a b → R b c → R a c) (hRs : ∀ a b, R a b → a.heap.size ≤ b.heap.size) (hmn : m < n) (Φ : Facts)
    (hok : regionOk ops a0.tmps.size = true) (htl : tailOk ops n = true)
    (step : ∀ i o, ops[i]? = some o → i < n → StepToR P ops n m R Q Φ a0 w0 i o)
    (tail : ∀ a w, R w0 w → a.defers = a0.defers → a.tmps.size = a0.tmps.size → (∀ t, noDstTo ops n t = true → a.tmps.getD t undef = a0.tmps.getD t undef) →
      (∀ i o d, ops[i]? = some o → i < n → o.dst = some d → Φ i (a.tmps.getD d undef) w) → wpList P ops Q (ops.toList.drop n) a w) : (Code.region id ops true).wp P Q a0 w0 := by
  have hlt := tailOk_lt htl
  have hcons : ∀ k o, ops[k]? = some o → ops.toList.drop k = o :: ops.toList.drop (k + 1) := by
    intro k o ho
    have hk := (Array.getElem?_eq_some_iff.1 ho).1
    rw [List.drop_eq_getElem_cons (by simpa using hk)]
    congr 1
    have := (Array.getElem?_eq_some_iff.1 ho).2
    simpa using this
  refine wp_region_any hm (wpAny_inv hok (fun l a w => l.size = ops.size ∧ ListedOk ops l ∧ (((∀ j, n ≤ j → l.getD j false = false) ∧ HeadInvR ops n m R Φ a0 w0 l a w) ∨
    ∃ k, n < k ∧ (∀ j, j < k → j < ops.size → l.getD j false = true) ∧ (∀ j, k ≤ j → l.getD j false = false) ∧ wpList P ops Q (ops.toList.drop k) a w)) (fun _ _ _ h => h.1) ?_ ?_ ops.size _ a0 _ ⟨by simp, ?_, Or.inl ⟨?_, ?_⟩⟩ ?_)
  · rintro l a w i o ⟨hls, hcl, hJ⟩ hil ho hie
    have hi' : i < ops.size := (Array.getElem?_eq_some_iff.1 ho).1
    have hil' : l.getD i false = false := by rw [← getD_true_false (by omega)]; exact hil
    have hcl' := hcl.set hls ho hie
    have hall : n ≤ i → ∀ j, j < i → l.getD j false = true := fun hni j hj => waits_listed hcl j ops.size i o ho hie (tailOk_spec htl i hi' hni j hj)
    rcases hJ with ⟨hun, hJ⟩ | ⟨k, hnk, hlk, huk, hwp⟩
    · by_cases hin : i < n
      · obtain ⟨hw, hwp⟩ := step i o ho hin a w hJ.below (fun hq => hJ.early (by
          rcases hq with rfl | hq
          · exact hil'
          · cases hlm : l.getD m false with
            | false => rfl
            | true =>
              have hms : m < ops.size := by omega
              obtain ⟨om, hom⟩ : ∃ o, ops[m]? = some o := ⟨ops[m], Array.getElem?_eq_getElem hms⟩
              have := waits_listed hcl i ops.size m om hom (hcl m om hom hlm) hq
              rw [this] at hil'; cases hil')) hJ.defers hJ.tmps hJ.outer (fun j oj d hwt hoj hd => by
          obtain ⟨e, he, hej, hb⟩ := waitsFor_spec hwt
          have hji : j < i := by rw [← hej]; exact (regionOk_spec hok i o ho).1 e he
          exact hJ.facts j oj d hoj (by omega) (hej ▸ hie e he hb) hd)
        unfold wpOp
        simp only [ho, hw, if_true]
        refine Or.inl (Oper.wp_mono ?_ hwp)
        rintro a' w' ⟨v, rfl, hb, hv, hk⟩
        exact ⟨by simp [hls], hcl', Or.inl ⟨fun j hj => by rw [getD_set_ne (by omega)]; exact hun j hj, hJ.put hRb hRt hRs hok hls hcl hin ho hil' hb hv hk⟩⟩
      · have hin' : i = n := by
          by_cases e : i = n
          · exact e
          · have h1 := hall (by omega) n (by omega)
            rw [hun n (Nat.le_refl _)] at h1; cases h1
        subst hin'
        have H := tail a w hJ.below hJ.defers hJ.tmps hJ.outer (fun j oj d hoj hj hd => hJ.facts j oj d hoj hj (hall (Nat.le_refl _) j hj) hd)
        rw [hcons i o ho] at H
        have H' : wpOp P ops Q i (wpList P ops Q (ops.toList.drop (i + 1))) a w := by
          unfold wpOp
          simp only [ho]
          exact H
        refine wpOp_mono ?_ H'
        intro a' w' hQ
        refine ⟨by simp [hls], hcl', Or.inr ⟨i + 1, by omega, fun j hj hjs => ?_, fun j hj => by rw [getD_set_ne (by omega)]; exact hun j (by omega), hQ⟩⟩
        by_cases e : j = i
        · subst e; simp [Array.getD_eq_getD_getElem?, hls, hi']
        · rw [getD_set_ne e]; exact hall (Nat.le_refl _) j (by omega)
    · have hik : i = k := by
        have h1 : k ≤ i := by
          by_cases e : k ≤ i
          · exact e
          · have := hlk i (by omega) hi'
            rw [hil'] at this; cases this
        by_cases e : i = k
        · exact e
        · have h2 := hall (by omega) k (by omega)
          rw [huk k (Nat.le_refl _)] at h2; cases h2
      subst hik
      rw [hcons i o ho] at hwp
      have H' : wpOp P ops Q i (wpList P ops Q (ops.toList.drop (i + 1))) a w := by
        unfold wpOp
        simp only [ho]
        exact hwp
      refine wpOp_mono ?_ H'
      intro a' w' hQ
      refine ⟨by simp [hls], hcl', Or.inr ⟨i + 1, by omega, fun j hj hjs => ?_, fun j hj => by rw [getD_set_ne (by omega)]; exact huk j (by omega), hQ⟩⟩
      by_cases e : j = i
      · subst e; simp [Array.getD_eq_getD_getElem?, hls, hi']
      · rw [getD_set_ne e]; exact hlk j (by omega) hjs
  · rintro a w ⟨_, _, ⟨hun, _⟩ | ⟨k, _, _, huk, hwp⟩⟩
    · have := hun n (Nat.le_refl _)
      simp [Array.getD_eq_getD_getElem?, hlt] at this
    · have hk : ops.size ≤ k := by
        by_cases e : ops.size ≤ k
        · exact e
        · have := huk k (Nat.le_refl _)
          simp [Array.getD_eq_getD_getElem?, show k < ops.size by omega] at this
      rw [List.drop_eq_nil_of_le (by simpa using hk)] at hwp
      exact hwp
  · intro i o ho hl
    have hi := (Array.getElem?_eq_some_iff.1 ho).1
    simp [Array.getD_eq_getD_getElem?, hi] at hl
  · intro j _
    by_cases hj : j < ops.size <;> simp [Array.getD_eq_getD_getElem?, hj]
  · refine ⟨hRb _ _ (Below.refl _ w0).drew, fun _ => (Below.refl _ w0).drew, rfl, rfl, fun _ _ => rfl, ?_⟩
    intro i o d ho _ hl _
    have hi := (Array.getElem?_eq_some_iff.1 ho).1
    simp [Array.getD_eq_getD_getElem?, hi] at hl
  · exact Nat.le_trans (List.length_filter_le _ _) (by simp)
def StepsToR (P : Program) (ops : Array Oper) (n m : Nat) (R : World → World → Prop) (Q : Exit → Act → World → Prop) (Φ : Facts) (a0 : Act) (w0 : World) : Nat → List Oper → Prop
  | _, [] => True
  | i, o :: r => StepToR P ops n m R Q Φ a0 w0 i o ∧ StepsToR P ops n m R Q Φ a0 w0 (i + 1) r
theorem stepsToR_get {P : Program} {ops : Array Oper} {n m : Nat} {R : World → World → Prop} {Q : Exit → Act → World → Prop} {Φ : Facts} {a0 : Act} {w0 : World} : ∀ {l : List Oper} {k : Nat}, StepsToR P ops n m R Q Φ a0 w0 k l → ∀ i o, l[i]? = some o → StepToR P ops n m R Q Φ a0 w0 (k + i) o
  | [], _, _, i, o, h => by simp at h
  | x :: r, k, hs, i, o, h => by
    cases i with
    | zero => simp at h; subst h; exact hs.1
    | succ i =>
      have := stepsToR_get hs.2 i o (by simpa using h)
      rwa [show k + 1 + i = k + (i + 1) by omega] at this
theorem steps_toR {P : Program} {ops : Array Oper} {n m : Nat} {R : World → World → Prop} {Q : Exit → Act → World → Prop} {Φ : Facts} {a0 : Act} {w0 : World} (H : StepsToR P ops n m R Q Φ a0 w0 0 (ops.toList.take n)) : ∀ i o, ops[i]? = some o → i < n → StepToR P ops n m R Q Φ a0 w0 i o := by
  intro i o ho hi
  have := stepsToR_get H i o (by rw [List.getElem?_take_of_lt hi]; simpa using ho)
  rwa [Nat.zero_add] at this
theorem facts_toR {ops : Array Oper} {n : Nat} {Φ : Facts} {a : Act} {w : World} (hp : ∀ i o d, ops[i]? = some o → i < n → o.dst = some d → Φ i (a.tmps.getD d undef) w) (j d : Nat) (hj : j < n) (h : dstAt ops j d = true) : Φ j (a.tmps.getD d undef) w := by
  obtain ⟨oj, h1, h2⟩ := dstAt_spec h
  exact hp j oj d h1 hj h2
theorem slots_mergeR {P : Nat → Bool} {a : Array Value} {l : List Value} (m : List Bool) (n : Nat) (hs : a.size = l.toArray.size) (hn : l.length = n) (hm : (List.range n).map (fun t => !(P t)) = m)
    (ho : ∀ t, P t = true → a.getD t undef = l.toArray.getD t undef) : a = (mergeFrom a 0 m l).toArray := by
  have hml : m.length = l.length := by rw [← hm, hn]; simp
  apply Array.ext
  · have h1 : (mergeFrom a 0 m l).toArray.size = l.length := by simp [merge_length a m l 0 hml]
    have h2 : a.size = l.length := by simpa using hs
    omega
  · intro i h1 h2
    have hi : i < l.length := by simpa [merge_length a m l 0 hml] using h2
    have := merge_at a m l 0 hml (fun j hj => by
      rw [← hm, List.getElem?_map] at hj
      have hjn : j < n := by
        apply Decidable.byContradiction; intro hc
        rw [List.getElem?_eq_none (by simpa using hc)] at hj; cases hj
      rw [List.getElem?_range hjn] at hj
      simp only [Option.map_some, Option.some.injEq, Bool.not_eq_false'] at hj
      have h3 := ho j hj
      rw [Nat.zero_add, h3]
      have : j < l.length := by omega
      simp [Array.getD_eq_getD_getElem?, this]) i hi
    rw [Nat.zero_add] at this
    have h4 := List.getElem?_eq_getElem (l := mergeFrom a 0 m l) (i := i) (by simpa using h2)
    rw [h4] at this
    have h5 : (mergeFrom a 0 m l)[i] = a.getD i undef := by simpa using this
    simp only [List.getElem_toArray]
    rw [h5]
    simp [Array.getD_eq_getD_getElem?, h1]
end Go.Proofs.YtcoieohbmkjpoaaGreatDoor
