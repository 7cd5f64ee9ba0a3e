/- StoreKeeps: what its walk wants. -/
import Derived.Test.YtcoieohbmkjpoaaGreatDoorB1S7
namespace Go.Proofs.YtcoieohbmkjpoaaGreatDoor
open Go.RowKit Go.Shelf Go.Maps
attribute [local go_sem] Oper.semAt_some

theorem StI.other {w w' : World} {B S : Nat} {lab lab' : Lab} {L : List Ato} (h : StI w B lab S L) (hB : B ≤ w.heap.size) (hs : Stp lab (fun l => l = .oth) w w') (hl : ∀ b, b < w.heap.size → lab' b = lab b) (hn : ∀ b, lab' b ≠ .free → B ≤ b ∧ b < w'.heap.size) : StI w' B lab' S L := by
  obtain ⟨lv, m1, m2, m3, n3, h0, hS, l1, l2, l3, p1, p2, p3, p4, p5⟩ := h.mem
  have hbw : Below B w w' := ⟨hs.os, hs.tape, hs.output, hs.size, fun k hk => hs.block k (by omega) (by rw [h.low hk]; intro e; cases e)⟩
  have lS := (Array.getElem?_eq_some_iff.1 h0).1
  have q1 : m1 < w.heap.size := by obtain ⟨D, ho, _⟩ := p2; exact ho.lt
  have q2 : m2 < w.heap.size := by obtain ⟨D, val, ho, _⟩ := p3; exact ho.lt
  have q3 : m3 < w.heap.size := by obtain ⟨D, val, ho, _⟩ := p4; exact ho.lt
  exact ⟨⟨by have := h.base; have := hs.size; omega, tab_below hbw h.base h.tab.2⟩, h.base, hn, h.good, h.len, lv, m1, m2, m3, n3, (hs.block S lS (by rw [hS]; intro e; cases e)).trans h0, (hl S lS).trans hS, (hl m1 q1).trans l1, (hl m2 q2).trans l2, (hl m3 q3).trans l3,
    p1.step hs (by intro e; cases e) (by intro e; cases e) hl, p2.step hs (by rw [l1]; intro e; cases e), p3.step hs (by rw [l2]; intro e; cases e) (by intro g e; cases e) hl, p4.step hs (by rw [l3]; intro e; cases e) (by intro g e; cases e) hl, p5⟩
theorem pick_ix (q : Ato → Bool) (L : List Ato) : pickL L (ix q L) = L.filter q := by
  have h1 : (List.range L.length).map (fun i => (L[i]?).getD (⟨#[]⟩, [])) = L := by
    apply List.ext_getElem
    · simp
    · intro i h1 h2
      simp [h2]
  unfold pickL ix
  conv => rhs; rw [← h1]
  rw [List.filter_map]
  congr 1
  refine List.filter_congr fun i hi => ?_
  have := List.mem_range.1 hi
  simp [this]
theorem withP_all (g : Sig) (arg : Int) (t : Tm) (h : arg < 0) : withP g arg t = qS g := by
  funext x
  obtain ⟨gs, gn⟩ := g
  unfold withP qS sgOf
  rw [decide_eq_true h, Bool.true_or, Bool.and_true, Bool.eq_iff_iff, Bool.and_eq_true, beq_iff_eq, decide_eq_true_iff, decide_eq_true_iff]
  constructor
  · rintro ⟨h1, h2⟩
    exact Prod.ext (bytes_inj h1) h2
  · intro e
    have e1 : x.1 = gs := congrArg Prod.fst e
    have e2 : x.2.length = gn := congrArg Prod.snd e
    exact ⟨by rw [e1], e2⟩
theorem withP_one (g : Sig) (k : Nat) (t : Tm) (ht : t.validB = true) (x : Ato) (hx : validA x = true) (hk : k < g.2) : withP g (k : Int) t x = qP (g, (k : Int), t.str) x := by
  have hv : ∀ u ∈ x.2, u.validB = true := by
    unfold validA at hx
    simp only [Bool.and_eq_true, List.all_eq_true] at hx
    exact fun u hu => valid_of_value (hx.2 u hu)
  have h0 : withP g (-1) t x = qS g x := by rw [withP_all g (-1) t (by omega)]
  unfold withP at h0 ⊢
  have hneg : decide ((-1 : Int) < 0) = true := rfl
  rw [hneg, Bool.true_or, Bool.and_true] at h0
  rw [h0, Bool.eq_iff_iff, Bool.and_eq_true]
  unfold qS qP places
  simp only [decide_eq_true_iff, List.mem_map, List.mem_range, Prod.mk.injEq, Int.toNat_natCast, show ¬ ((k : Int) < 0) by omega, decide_false, Bool.false_or]
  constructor
  · rintro ⟨h1, h2⟩
    have hl : k < x.2.length := by
      have : (sgOf x).2 = g.2 := by rw [h1]
      unfold sgOf at this
      simp only at this
      omega
    rw [List.getElem?_eq_getElem hl, Option.map_some, Option.getD_some, sameB_iff] at h2
    exact ⟨k, hl, h1, rfl, by rw [List.getElem?_eq_getElem hl, Option.map_some, Option.getD_some, h2]⟩
  · rintro ⟨i, hi, h1, h2, h3⟩
    obtain rfl : i = k := by omega
    rw [List.getElem?_eq_getElem hi, Option.map_some, Option.getD_some] at h3
    refine ⟨h1, ?_⟩
    rw [List.getElem?_eq_getElem hi, Option.map_some, Option.getD_some, sameB_iff]
    exact str_inj' (hv _ (List.getElem_mem hi)) ht h3
/-- A list of the law's own, that the store's labels leave alone. -/
def LstW (B : Nat) (w : World) (lab : Lab) (v : Value) (L : List Ato) : Prop := LstO B w v L ∧ ∀ b, v.ownBlock = some b → lab b = .oth
theorem LstW.below {B : Nat} {w w' : World} {lab : Lab} {v : Value} {L : List Ato} (h : LstW B w lab v L) (hB : B ≤ w.heap.size) (hb : Below w.heap.size w w') : LstW B w' lab v L := ⟨h.1.below hB hb, h.2⟩
theorem LstW.step {B : Nat} {w w' : World} {lab lab' : Lab} {v : Value} {L : List Ato} (h : LstW B w lab v L) (hs : Stp lab Own w w') (hb : Below B w w') (hl : ∀ b, b < w.heap.size → lab' b = lab b) : LstW B w' lab' v L := by
  obtain ⟨⟨xs, h1, h2⟩, h3⟩ := h
  refine ⟨⟨xs, own_stp hs h1 (fun b e => by rw [h3 b e]; exact fun h => h.2 rfl), h2.same (fun _ h => h) (fun b h => hb.block b h)⟩, fun b e => ?_⟩
  rw [hl b (own_block h1 b e).2]
  exact h3 b e
theorem in_q (L : List Ato) (lv : Value) (x : Ato) (v0 v1 : Value) (q : Bool) (w : World) (h : LstR w lv L) (hx : AtS (fun b => b < w.heap.size) w v0 v1 x) (hq : q = true ↔ x ∈ L) :
    Calls Tryz.prog 16 #[lv, .agg #[v0, v1]] w fun e w' => e = .returned (.bool q) ∧ Below w.heap.size w w' := by
  have h := in11_any L lv x v0 v1 w h hx
  have e : (L.any fun y => sameA y x) = q := by rw [Bool.eq_iff_iff, anyA_iff]; exact hq.symm
  rwa [e] at h
theorem validA_q (x : Ato) (v0 v1 : Value) (q : Bool) (w : World) (h : AtS (fun b => b < w.heap.size) w v0 v1 x) (hc : cntA x ≤ 1000000) (hq : validA x = q) :
    Calls Tryz.prog 10 #[.agg #[v0, v1]] w fun e w' => e = .returned (.bool q) ∧ Below w.heap.size w w' := hq ▸ validA_gen x v0 v1 w h hc
theorem AtS.sig {S : Nat → Prop} {w : World} {v0 v1 : Value} {x : Ato} (h : AtS S w v0 v1 x) : SigOk (sgOf x) := by
  obtain ⟨_, h1, _, _, _, h2, _⟩ := h
  exact ⟨h1, h2⟩
theorem str_ok {t : Tm} {B : Nat} {w : World} {c0 c1 c2 c3 : Value} (ht : IsTm B w c0 c1 c2 c3 t) (hc : t.count ≤ 1000000) : t.str.size ≤ maxLen := by
  by_cases hv : t.validB = true
  · have h := str_len ht hc hv
    have e : t.str.size = t.text.length := by
      rw [Tm.str, if_pos hv]
      show t.text.toArray.size = _
      exact List.size_toArray
    unfold maxLen
    omega
  · have e : t.str = ⟨#[]⟩ := by rw [Tm.str, if_neg hv]
    rw [e]
    exact Nat.zero_le _
theorem addR_no {A : List Ato} {x : Ato} (h : validA x = false) : addR A x = (false, 2) ∧ addL A x = A := by
  unfold addR addL
  rw [if_pos h, if_neg (by rw [h]; simp)]
  exact ⟨rfl, rfl⟩
theorem addR_old {A : List Ato} {x : Ato} (h : validA x = true) (hx : x ∈ A) : addR A x = (false, 0) ∧ addL A x = A := by
  unfold addR addL
  rw [if_neg (by rw [h]; simp), if_pos hx, if_neg (fun c => c.2.1 hx)]
  exact ⟨rfl, rfl⟩
theorem addR_new {A : List Ato} {x : Ato} (h : validA x = true) (hx : x ∉ A) (hl : A.length < 2000) : addR A x = (true, 0) ∧ addL A x = A ++ [x] := by
  unfold addR addL
  rw [if_neg (by rw [h]; simp), if_neg hx, if_pos hl, if_pos ⟨h, hx, hl⟩]
  exact ⟨rfl, rfl⟩
end Go.Proofs.YtcoieohbmkjpoaaGreatDoor
