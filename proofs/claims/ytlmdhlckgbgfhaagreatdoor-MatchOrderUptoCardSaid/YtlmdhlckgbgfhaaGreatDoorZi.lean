/- Texts that belong together: Package match: pairs that grow: bind. A region that draws its order: a head in any order in which one operation may write old memory and an operation may end another's fact; then a tail. Package match: fit and fitAll: the outer variables are bound, the open parts put off. -/
import Derived.Test.YtlmdhlckgbgfhaaGreatDoorZh
import Derived.Test.YtlmdhlckgbgfhaaGreatDoorZd
import Derived.ArgAppend
import Derived.Laws.CopyRow
import Derived.Laws.CopyOwn
set_option maxRecDepth 100000
set_option maxHeartbeats 400000000
namespace Go.Proofs.YtlmdhlckgbgfhaaGreatDoor
open Go.RowKit Go.Shelf
attribute [local go_sem] Oper.semAt_some

def HoldB (w0 : World) : List Value → Bd → Prop
 | xs, [] => xs = []
 | xs, x :: r => ∃ c0 c1 c2 c3 ys, xs = .string x.1 :: c0 :: c1 :: c2 :: c3 :: ys ∧ x.1.size ≤ maxLen ∧ IsTm w0.heap.size w0 c0 c1 c2 c3 x.2 ∧ HoldB w0 ys r
theorem HoldB.len {w0 : World} : ∀ {b : Bd} {xs : List Value}, HoldB w0 xs b → xs.length = b.length * 5
 | [], xs, h => by rw [show xs = [] from h]; rfl
 | x :: r, xs, ⟨c0, c1, c2, c3, ys, e, _, _, h⟩ => by
   rw [e]
   simp only [List.length_cons, HoldB.len h]
   omega
theorem HoldB.append {w0 : World} : ∀ {b c : Bd} {xs ys : List Value}, HoldB w0 xs b → HoldB w0 ys c → HoldB w0 (xs ++ ys) (b ++ c)
 | [], c, xs, ys, h, k => by rw [show xs = [] from h]; exact k
 | x :: r, c, xs, ys, ⟨c0, c1, c2, c3, zs, e, h1, h2, h⟩, k => ⟨c0, c1, c2, c3, zs ++ ys, by rw [e]; rfl, h1, h2, h.append k⟩
theorem HoldB.split {w0 : World} : ∀ {b : Bd} {xs : List Value} (i : Nat), HoldB w0 xs b → HoldB w0 (xs.take (i * 5)) (b.take i) ∧ HoldB w0 (xs.drop (i * 5)) (b.drop i)
 | [], xs, i, h => by rw [show xs = [] from h]; simp [HoldB]
 | x :: r, xs, 0, h => by simp only [Nat.zero_mul, List.take_zero, List.drop_zero]; exact ⟨rfl, h⟩
 | x :: r, xs, i + 1, ⟨c0, c1, c2, c3, ys, e, h1, h2, h⟩ => by
   have ih := h.split i
   subst e
   rw [show (i + 1) * 5 = i * 5 + 5 by omega]
   exact ⟨⟨c0, c1, c2, c3, ys.take (i * 5), by simp [List.take_succ_cons], h1, h2, ih.1⟩, by simpa using ih.2⟩
theorem HoldB.at {w0 : World} : ∀ {b : Bd} {xs : List Value}, HoldB w0 xs b → ∀ i (h : i < b.length), b[i].1.size ≤ maxLen ∧ xs[i * 5]? = some (.string b[i].1) ∧ ∃ c0 c1 c2 c3, xs[i * 5 + 1]? = some c0 ∧ xs[i * 5 + 2]? = some c1 ∧ xs[i * 5 + 3]? = some c2 ∧ xs[i * 5 + 4]? = some c3 ∧ IsTm w0.heap.size w0 c0 c1 c2 c3 b[i].2
 | x :: r, xs, ⟨c0, c1, c2, c3, ys, e, h1, h2, h⟩, i, hi => by
   subst e
   cases i with
   | zero => exact ⟨h1, rfl, c0, c1, c2, c3, rfl, rfl, rfl, rfl, h2⟩
   | succ i =>
     have := h.at i (by simpa using hi)
     rw [show (i + 1) * 5 = i * 5 + 5 by omega]
     simpa using this
theorem HoldB.one {w0 : World} : ∀ {b : Bd} {xs : List Value}, HoldB w0 xs b → ∀ u ∈ xs, u.oneCell' = true
 | [], xs, h, u, hu => by rw [show xs = [] from h] at hu; cases hu
 | (n, .mk k m s us) :: r, xs, ⟨c0, c1, c2, c3, ys, e, h1, h2, h⟩, u, hu => by
   subst e
   simp only [IsTm] at h2
   obtain ⟨rfl, _, rfl, _, rfl, _, a, cap, rfl, _, _⟩ := h2
   simp only [List.mem_cons] at hu
   rcases hu with rfl | rfl | rfl | rfl | rfl | hu
   · rfl
   · rfl
   · rfl
   · rfl
   · rfl
   · exact h.one u hu
def PS (w0 : World) (base : Nat) (w : World) (V : Value) (b : Bd) : Prop := b.length ≤ 100000 ∧ ∃ xs, HoldB w0 xs b ∧
 ((∃ a, V = .slice a b.length b.length ∧ (b ≠ [] → ∃ g off, a = some ⟨g, off, none⟩ ∧ g < w0.heap.size ∧ ∀ j u, xs[j]? = some u → w0.cell? ⟨g, off + j, none⟩ = some u)) ∨ w.ownsRow base 40 5 V b.length xs)
theorem PS.read {w0 w : World} {base : Nat} {V : Value} {b : Bd} (h : PS w0 base w V b) (hB : Below w0.heap.size w0 w) : ∃ xs a cap, HoldB w0 xs b ∧ V = .slice a b.length cap ∧ b.length ≤ cap ∧ cap ≤ maxLen ∧
   (b ≠ [] → ∃ g off, a = some ⟨g, off, none⟩ ∧ g < w.heap.size ∧ ∀ j u, xs[j]? = some u → w.cell? ⟨g, off + j, none⟩ = some u) := by
 obtain ⟨hl, xs, hx, ⟨a, e, hn⟩ | ho⟩ := h
 · refine ⟨xs, a, _, hx, e, Nat.le_refl _, by unfold maxLen; omega, fun hne => ?_⟩
   obtain ⟨g, off, ha, hg, hc⟩ := hn hne
   exact ⟨g, off, ha, Nat.lt_of_lt_of_le hg hB.size, fun j u hu => (hB.cell (p := ⟨g, off + j, none⟩) hg).trans (hc j u hu)⟩
 · have ho0 := ho
   rcases ho.2 with ⟨rfl, h0⟩ | ⟨g, cap, cur, rfl, _, hg, hc, hm, _⟩
   · exact ⟨xs, none, 0, hx, by rw [h0], by omega, Nat.zero_le _, fun hne => absurd (List.length_eq_zero_iff.1 h0) hne⟩
   · refine ⟨xs, _, cap, hx, rfl, hc, hm, fun _ => ⟨g, 0, rfl, (gL hg), fun j u hu => ?_⟩⟩
     have := ho0.cells (g := g) rfl j u hu
     rwa [Addr.add_lit] at this
theorem PS.grow {w0 w w' : World} {base : Nat} {V : Value} {b : Bd} (h : PS w0 base w V b) (hb : Below w.heap.size w w') : PS w0 base w' V b := by
 obtain ⟨hl, xs, hx, h | h⟩ := h
 · exact ⟨hl, xs, hx, Or.inl h⟩
 · exact ⟨hl, xs, hx, Or.inr (own_grown h hb)⟩
theorem set_self {α : Type} {a : Array α} {i : Nat} {v : α} (h : a[i]? = some v) : a.setIfInBounds i v = a := by
 apply Array.ext
 · simp
 · intro j h1 h2
   rw [Array.getElem_setIfInBounds]
   split
   · rename_i e
     subst e
     have := (Array.getElem?_eq_some_iff.1 h).2
     exact this.symm
   · rfl
theorem PS.bdV {w0 w : World} {base : Nat} {V : Value} {b : Bd} (h : PS w0 base w V b) (hB : Below w0.heap.size w0 w) : BdV w V b := by
 obtain ⟨xs, a, cap, hx, rfl, hc, hm, hr⟩ := h.read hB
 refine ⟨a, cap, rfl, hc, hm, fun hne => ?_⟩
 obtain ⟨g, off, ha, hg, hcell⟩ := hr hne
 refine ⟨g, off, ha, hg, IsBs.mk fun i hi => ?_⟩
 obtain ⟨h1, h2, c0, c1, c2, c3, e0, e1, e2, e3, ht⟩ := hx.at i hi
 exact ⟨h1, hcell _ _ h2, c0, c1, c2, c3, by rw [Nat.add_assoc]; exact hcell _ _ e0, by rw [Nat.add_assoc]; exact hcell _ _ e1, by rw [Nat.add_assoc]; exact hcell _ _ e2, by rw [Nat.add_assoc]; exact hcell _ _ e3, (ht.below hB).mono hB.size⟩
theorem IsBs.hold {w0 : World} {g : Nat} : ∀ {b : Bd} {off : Nat}, IsBs w0.heap.size w0 g off b → ∃ xs, HoldB w0 xs b ∧ ∀ j u, xs[j]? = some u → w0.cell? ⟨g, off + j, none⟩ = some u
 | [], off, _ => ⟨[], rfl, fun j u h => by simp at h⟩
 | x :: r, off, h => by
   simp only [IsBs] at h
   obtain ⟨h1, h2, ⟨c0, c1, c2, c3, e0, e1, e2, e3, ht⟩, h3⟩ := h
   obtain ⟨ys, hy, hc⟩ := IsBs.hold h3
   refine ⟨.string x.1 :: c0 :: c1 :: c2 :: c3 :: ys, ⟨c0, c1, c2, c3, ys, rfl, h1, ht, hy⟩, fun j u hu => ?_⟩
   match j, hu with
   | 0, hu => cases hu; exact h2
   | 1, hu => cases hu; exact e0
   | 2, hu => cases hu; exact e1
   | 3, hu => cases hu; exact e2
   | 4, hu => cases hu; exact e3
   | j + 5, hu => rw [show off + (j + 5) = off + 5 + j by omega]; exact hc j u hu
theorem PS.start {w0 : World} {a : Option Addr} {b : Bd} (h : BdV w0 (.slice a b.length b.length) b) (hl : b.length ≤ 100000) (base : Nat) (w : World) : PS w0 base w (.slice a b.length b.length) b := by
 obtain ⟨a', cap, e, _, _, hr⟩ := h
 simp only [Value.slice.injEq, true_and] at e
 obtain ⟨rfl, rfl⟩ := e
 by_cases hb : b = []
 · subst hb
   exact ⟨hl, [], rfl, Or.inl ⟨a, rfl, fun h => absurd rfl h⟩⟩
 · obtain ⟨g, off, ha, hg, hi⟩ := hr hb
   obtain ⟨xs, hx, hc⟩ := hi.hold
   exact ⟨hl, xs, hx, Or.inl ⟨a, rfl, fun _ => ⟨g, off, ha, hg, hc⟩⟩⟩
def OwnP (base : Nat) (w : World) (V : Value) (k : Nat) : Prop := V.ownBlock = some k ∧ base ≤ k ∧ ∃ n xs, w.ownsRow base 40 5 V n xs
theorem OwnP.not {base P : Nat} {w : World} {V : Value} {CS : Array Value} {t : TypeId} (hP : w.heap[P]? = some (.cells CS t (0, 0))) (ht : t ≠ 40) : ¬ OwnP base w V P := fun ⟨h1, _, _, _, h⟩ => own_not h hP ht h1
structure Fr (base P : Nat) (V : Value) (w w' : World) : Prop where
 os : w'.os = w.os
 tape : w'.tape = w.tape
 output : w'.output = w.output
 size : w.heap.size ≤ w'.heap.size
 block : ∀ k, k < w.heap.size → k ≠ P → ¬ OwnP base w V k → w'.heap[k]? = w.heap[k]?
theorem Fr.below {base P B : Nat} {V : Value} {w w' : World} (h : Fr base P V w w') (hP : B ≤ P) (hV : B ≤ base) (hs : B ≤ w.heap.size) : Below B w w' :=
 ⟨h.os, h.tape, h.output, h.size, fun k hk => h.block k (by omega) (by omega) fun e => by have := e.2.1; omega⟩
theorem Fr.of_below {base P : Nat} {V : Value} {w w' : World} (h : Below w.heap.size w w') : Fr base P V w w' := ⟨h.os, h.tape, h.output, h.size, fun k hk _ _ => h.block k hk⟩
theorem Fr.trans {base P : Nat} {V V' : Value} {a b c : World} (h : Fr base P V a b) (k : Fr base P V' b c) (hV : ∀ q, OwnP base b V' q → OwnP base a V q ∨ a.heap.size ≤ q) : Fr base P V a c :=
 ⟨k.os.trans h.os, k.tape.trans h.tape, k.output.trans h.output, Nat.le_trans h.size k.size, fun q hq h1 h2 => (k.block q (Nat.lt_of_lt_of_le hq h.size) h1 fun e => (hV q e).elim h2 (fun e' => by omega)).trans (h.block q hq h1 h2)⟩

theorem slots_mergeP {P : Nat → Bool} {a : Array Value} {l : List Value} (m : List Bool) (n : Nat) (hs : a.size = l.toArray.size) (hn : l.length = n) (hm : (List.range n).map (fun t => !(P t)) = m)
   (ho : ∀ t, P t = true → a.getD t undef = l.toArray.getD t undef) : a = (mergeFrom a 0 m l).toArray := by
 have hml : m.length = l.length := by rw [← hm, hn]; simp
 apply Array.ext
 · have h1 : (mergeFrom a 0 m l).toArray.size = l.length := by simp [merge_length a m l 0 hml]
   have h2 : a.size = l.length := by simpa using hs
   omega
 · intro i h1 h2
   have hi : i < l.length := by simpa [merge_length a m l 0 hml] using h2
   have := merge_at a m l 0 hml (fun j hj => by
     rw [← hm, List.getElem?_map] at hj
     have hjn : j < n := by
       apply Decidable.byContradiction; intro hc
       rw [List.getElem?_eq_none (by simpa using hc)] at hj; cases hj
     rw [List.getElem?_range hjn] at hj
     simp only [Option.map_some, Option.some.injEq, Bool.not_eq_false'] at hj
     have h3 := ho j hj
     rw [Nat.zero_add, h3]
     have : j < l.length := by omega
     simp [Array.getD_eq_getD_getElem?, this]) i hi
   rw [Nat.zero_add] at this
   have h4 := List.getElem?_eq_getElem (l := mergeFrom a 0 m l) (i := i) (by simpa using h2)
   rw [h4] at this
   have h5 : (mergeFrom a 0 m l)[i] = a.getD i undef := by simpa using this
   simp only [List.getElem_toArray]
   rw [h5]
   simp [Array.getD_eq_getD_getElem?, h1]
theorem info_bind : (Tryz.prog.info? 40).map (fun i => (i.zero, i.size, i.bytes)) = some (some (.agg #[.string ⟨#[]⟩, .int .u8 0, .int .i64 0, .string ⟨#[]⟩, .slice none 0 0]), 5, 72) := by kernel_rfl
theorem append_pair {w0 w : World} {base : Nat} (_ : w0.heap.size ≤ base) (hB : Below w0.heap.size w0 w) (hbw : base ≤ w.heap.size) {V : Value} {b : Bd} (hPS : PS w0 base w V b) (hroom : b.length < 100000) (ty : TypeId) (gz : Nat) (zs : List Value) (hz : zs.length = 5) (hc : ∀ j u, zs[j]? = some u → w.cell? ⟨gz, j, none⟩ = some u) (h1 : ∀ u ∈ zs, u.oneCell' = true) :
   ∃ xs v' w', HoldB w0 xs b ∧ (Builtin.append_ #[66, 66] ty #[V, .slice (some ⟨gz, 0, none⟩) 1 1]).run Tryz.prog w = .ok v' w' ∧ w'.ownsRow base 40 5 v' (b.length + 1) (xs ++ zs) ∧
     (w'.os = w.os ∧ w'.tape = w.tape ∧ w'.output = w.output ∧ w.heap.size ≤ w'.heap.size) ∧ (∀ k, k < w.heap.size → ¬ OwnP base w V k → w'.heap[k]? = w.heap[k]?) ∧ ∀ g, v'.ownBlock = some g → OwnP base w V g ∨ w.heap.size ≤ g := by
 obtain ⟨i0, hi, hz0, hz1, hz2⟩ := info_parts info_bind
 have hc' : ∀ j u, zs[j]? = some u → w.cell? ((⟨gz, 0, none⟩ : Addr).add j) = some u := fun j u h => by rw [Addr.add_lit, Nat.zero_add]; exact hc j u h
 obtain ⟨hl, xs, hx, ⟨a, rfl, hn⟩ | ho⟩ := hPS
 · have hxl := hx.len
   cases a with
   | none =>
     have hb0 : b = [] := by
       apply Decidable.byContradiction
       intro h
       obtain ⟨_, _, e, _⟩ := hn h
       cases e
     subst hb0
     obtain rfl : xs = [] := hx
     obtain ⟨v', w', hr, h2, h3, _, h4⟩ := run_append_own_at (P := Tryz.prog) w base 66 ty 40 i0 _ 5 72 Tryz.underlying66 hi hz0 hz1 hz2 rfl (by decide) (.slice none 0 0) 0 [] (World.ownsRow_nil _ _ _ _) ⟨gz, 0, none⟩ 1 1 zs (by omega) hc' h1 (by unfold maxLen; omega) (by omega) hbw
     refine ⟨[], v', w', rfl, hr, h2, ⟨h3.os, h3.tape, h3.output, h3.size⟩, fun k hk _ => h3.block k hk (by simp [Value.ownBlock]), fun g e => ?_⟩
     rcases h4 with h | h
     · rw [h] at e; cases e
     · rw [h] at e; cases e; exact Or.inr (Nat.le_refl _)
   | some ad =>
     have holds : ∀ j u, xs[j]? = some u → w.cell? (ad.add j) = some u := fun j u hj => by
       by_cases hb0 : b = []
       · subst hb0
         rw [show xs = [] from hx] at hj
         simp at hj
       · obtain ⟨g, off, e, hg, hcell⟩ := hn hb0
         cases e
         rw [Addr.add_lit]
         exact (hB.cell (p := ⟨g, off + j, none⟩) hg).trans (hcell j u hj)
     obtain ⟨v', w', hr, h2, h3⟩ := run_append_arg_grows (P := Tryz.prog) w 66 ty 40 i0 _ 5 72 Tryz.underlying66 hi hz0 hz1 hz2 rfl (by decide) ad b.length b.length xs hxl holds ⟨gz, 0, none⟩ 1 1 zs (by omega) hc' (by omega) (by unfold maxLen; omega) (by omega)
     refine ⟨xs, v', w', hx, hr, ?_, ⟨h3.os, h3.tape, h3.output, h3.size⟩, fun k hk _ => h3.block k hk (by simp), fun g e => Or.inr (h2.lt g e).1⟩
     · rcases h2 with ⟨q1, q2⟩
       refine ⟨q1, q2.imp id ?_⟩
       rintro ⟨g, cap, cur, e1, e2, e3⟩
       exact ⟨g, cap, cur, e1, by omega, e3⟩
 · obtain ⟨v', w', hr, h2, h3, _, h4⟩ := run_append_own_at (P := Tryz.prog) w base 66 ty 40 i0 _ 5 72 Tryz.underlying66 hi hz0 hz1 hz2 rfl (by decide) V b.length xs ho ⟨gz, 0, none⟩ 1 1 zs (by omega) hc' h1 (by unfold maxLen; omega) (by omega) hbw
   refine ⟨xs, v', w', hx, hr, h2, ⟨h3.os, h3.tape, h3.output, h3.size⟩, fun k hk hh => h3.block k hk (fun e => hh ⟨e.symm, (ho.lt k e.symm).1, _, _, ho⟩), fun g e => ?_⟩
   · rcases h4 with h | h
     · rw [h] at e; exact Or.inl ⟨e, (ho.lt g e).1, _, _, ho⟩
     · rw [h] at e; cases e; exact Or.inr (Nat.le_refl _)
theorem z5_cells {w : World} {g : Nat} {cs : Array Value} {t : TypeId} (h : w.heap[g]? = some (.cells cs t (0, 0))) (j : Nat) (u : Value) (hj : cs.toList[j]? = some u) : w.cell? ⟨g, j, none⟩ = some u := cells_at h j u (by simpa using hj)
theorem wpList_append_run {ops : Array Oper} {rest : List Oper} {o : Oper} {a : Act} {Q : Exit → Act → World → Prop} {w w' : World} {v' sv xv : Value} (hgd : o.guard = none) (s x : Operand) (t : TypeId)
   (ho : o.op = .call { callee := .builtin .append, args := #[s, x], argTypes := #[t, t] }) (hs : a.eval s = sv) (hx : a.eval x = xv) (hr : (Builtin.append_ #[t, t] o.type #[sv, xv]).run Tryz.prog w = .ok v' w') (h : wpList Tryz.prog ops Q rest (a.put o.dst v') w') : wpList Tryz.prog ops Q (o :: rest) a w := by
 refine wpList_plain hgd fun K hK => ?_
 unfold Oper.wp execOp
 simp only [ho, resolve, invoke, builtin, Sem.run_bind, Sem.run_pure, Result.andThen_ok, List.map_toArray, List.map_cons, List.map_nil, hs, hx, hr]
 exact hK _ _ h
theorem run_copy_rows {P : Program} (w : World) (dT sT ty elem : TypeId) (k g o dLen dCap : Nat) (a : Addr) (sLen sCap : Nat) (cur : Array Value) (t : TypeId) (cs : List Value)
   (hu : P.underlying dT = some (.slice elem)) (hs : (P.info? elem).map (·.size) = some k)
   (hg : w.heap[g]? = some (.cells cur t (0, 0))) (hn : cs.length = Nat.min sLen dLen * k)
   (hsrc : ∀ j v, cs[j]? = some v → w.cell? (a.add j) = some v) (hfit : o + cs.length ≤ cur.size) (h1 : ∀ v ∈ cs, v.oneCell' = true) :
   (Builtin.copy_ #[dT, sT] ty #[.slice (some ⟨g, o, none⟩) dLen dCap, .slice (some a) sLen sCap]).run P w =
     .ok (goInt (Nat.min sLen dLen : Nat)) (w.setRow g (cur.toList.take o ++ cs ++ cur.toList.drop (o + cs.length)).toArray) := by
 have hl := run_loadCells_list (P := P) w a cs hsrc
 have hst := run_storeCells_at P g o t cs 0 cur w hg (by simpa using hfit) h1
 cases hq : P.info? elem with
 | none => simp [hq] at hs
 | some i =>
   have hi : i.size = k := by simpa [hq] using hs
   simp [Builtin.copy_, run_underlying hu, Builtin.lenOf, Builtin.firstCells, sizeOf, typeInfo, hq, hi, ← hn, hl, hst]
theorem run_copy_zero {P : Program} (w : World) (dT sT ty elem : TypeId) (d s : Option Addr) (dLen dCap sLen sCap : Nat)
   (hu : P.underlying dT = some (.slice elem)) (hs : ((P.info? elem).map (·.size)).isSome = true) (hn : Nat.min sLen dLen = 0) :
   (Builtin.copy_ #[dT, sT] ty #[.slice d dLen dCap, .slice s sLen sCap]).run P w = .ok (goInt 0) w := by
 cases hq : P.info? elem with
 | none => simp [hq] at hs
 | some i =>
   cases d <;> cases s <;> simp [Builtin.copy_, run_underlying hu, Builtin.lenOf, Builtin.firstCells, sizeOf, typeInfo, hq, hn, loadCells, loadCellsFrom, storeCells]
def ds48_3 (b : Bd) (P o x g off _ vc : Nat) (k2 n2 k3 n3 : Int) (s2 s3 : ByteArray) (a2 a3 : Option Addr) (l2 c2 l3 c3 : Nat) (EQ : Bool) : List Du := [.val (.pointer (some ⟨P, o, none⟩)), .val (.pointer (some ⟨P, o, none⟩)), .val (.slice (some ⟨g, off, none⟩) b.length vc), .val (.int .i64 (x)), .val (.pointer (some ⟨g, off + x * 5, none⟩)), .val (.pointer (some ⟨g, off + x * 5 + 1, none⟩)), .val (.agg #[.int .u8 k3, .int .i64 n3, .string s3, .slice a3 l3 c3]), .val (.agg #[.int .u8 k2, .int .i64 n2, .string s2, .slice a2 l2 c2]), .val (.bool (EQ)), .val (.bool (EQ))]
theorem copy_shift (w : World) (g sc n x : Nat) (cur : Array Value) (xs zs : List Value) (hx : xs.length = n * 5) (_ : zs.length = 5) (hxn : x ≤ n) (hsc : n + 1 ≤ sc) (hg : w.heap[g]? = some (.cells cur 40 (0, 0))) (hcs : cur.size = sc * 5) (htk : cur.toList.take ((n + 1) * 5) = xs ++ zs) (h1 : ∀ u ∈ xs, u.oneCell' = true) :
   ∃ wc, (Builtin.copy_ #[66, 66] 3 #[.slice (if sc = x + 1 then some ⟨g, 0, none⟩ else some ⟨g, (x + 1) * 5, none⟩) (n - x) (sc - (x + 1)), .slice (some ⟨g, x * 5, none⟩) (n + 1 - x) (sc - x)]).run Tryz.prog w = .ok (.int .i64 ((n - x : Nat) : Int)) wc ∧
     (∃ cur', wc.heap[g]? = some (.cells cur' 40 (0, 0)) ∧ cur'.size = cur.size ∧ cur'.toList.take (x * 5) = xs.take (x * 5) ∧ (cur'.toList.drop ((x + 1) * 5)).take ((n - x) * 5) = xs.drop (x * 5)) ∧ (∀ k, k ≠ g → wc.heap[k]? = w.heap[k]?) ∧ wc.heap.size = w.heap.size ∧ (wc.os = w.os ∧ wc.tape = w.tape ∧ wc.output = w.output) := by
 obtain ⟨i0, hi, hz0, hz1, hz2⟩ := info_parts info_bind
 have hsz : (Tryz.prog.info? 40).map (·.size) = some 5 := by rw [hi]; simp [hz1]
 have htx : cur.toList.take (n * 5) = xs := by
   have h := congrArg (List.take (n * 5)) htk
   rw [List.take_take, Nat.min_eq_left (by omega), List.take_left' hx] at h
   exact h
 have hmin : Nat.min (n + 1 - x) (n - x) = n - x := Nat.min_eq_right (by omega)
 by_cases hxe : x = n
 · subst hxe
   refine ⟨w, ?_, ⟨cur, hg, rfl, ?_, ?_⟩, fun _ _ => rfl, rfl, rfl, rfl, rfl⟩
   · have hr := run_copy_zero (P := Tryz.prog) w 66 66 3 40 (if sc = x + 1 then some ⟨g, 0, none⟩ else some ⟨g, (x + 1) * 5, none⟩) (some ⟨g, x * 5, none⟩) (x - x) (sc - (x + 1)) (x + 1 - x) (sc - x) Tryz.underlying66 (by rw [hsz]; rfl) (by rw [hmin]; omega)
     rw [hr, Nat.sub_self]; rfl
   · rw [htx, List.take_of_length_le (by omega)]
   · rw [Nat.sub_self, Nat.zero_mul, List.take_zero, List.drop_eq_nil_of_le (by omega)]
 · have hne : ¬ sc = x + 1 := by omega
   rw [if_neg hne]
   have hcl : (xs.drop (x * 5)).length = Nat.min (n + 1 - x) (n - x) * 5 := by rw [hmin, List.length_drop]; omega
   have hr := run_copy_rows (P := Tryz.prog) w 66 66 3 40 5 g ((x + 1) * 5) (n - x) (sc - (x + 1)) ⟨g, x * 5, none⟩ (n + 1 - x) (sc - x) cur 40 (xs.drop (x * 5)) Tryz.underlying66 hsz hg hcl (fun j u hu => by
     rw [Addr.add_lit]
     refine cells_at hg _ _ ?_
     have h2 : xs[x * 5 + j]? = some u := by rw [← hu, List.getElem?_drop]
     have h3 : x * 5 + j < n * 5 := by have := (List.getElem?_eq_some_iff.1 h2).1; omega
     rw [← htx, List.getElem?_take_of_lt h3] at h2
     simpa using h2) (by rw [hcl, hmin]; have : cur.toList.length = sc * 5 := by simpa using hcs
                         omega) (fun u hu => h1 u (List.mem_of_mem_drop hu))
   rw [hmin] at hr
   refine ⟨_, hr, ⟨_, setRow_heap w g cur _ 40 _ hg, ?_, ?_, ?_⟩, fun k hk => setRow_other w g k _ (fun e => hk e), by simp [World.setRow], rfl, rfl, rfl⟩
   · simp only [List.size_toArray, List.length_append, List.length_take, List.length_drop, Array.length_toList]
     rw [hx]
     omega
   · rw [List.append_assoc, List.take_append_of_le_length (by rw [List.length_take, Array.length_toList]; omega), List.take_take, Nat.min_eq_left (by omega), ← htx, List.take_take, Nat.min_eq_left (by omega)]
   · have hl : (cur.toList.take ((x + 1) * 5)).length = (x + 1) * 5 := by rw [List.length_take, Array.length_toList]; omega
     rw [List.append_assoc, List.drop_left' hl, List.take_left' (by rw [List.length_drop, hx]; omega)]
theorem mid5 {L A C : List Value} {k : Nat} (hA : L.take k = A) (hC : L.drop (k + 5) = C) (hk : k + 5 ≤ L.length) (a b c d e : Value) : (((((L.set k a).set (k + 1) b).set (k + 2) c).set (k + 3) d).set (k + 4) e) = A ++ [a, b, c, d, e] ++ C := by
 obtain ⟨q0, q1, q2, q3, q4, hq⟩ : ∃ q0 q1 q2 q3 q4, L = A ++ [q0, q1, q2, q3, q4] ++ C := by
   have h1 : L = L.take k ++ (L.drop k).take 5 ++ L.drop (k + 5) := by
     rw [← List.drop_drop, List.append_assoc, List.take_append_drop, List.take_append_drop]
   have h2 : ((L.drop k).take 5).length = 5 := by rw [List.length_take, List.length_drop]; omega
   match hm : (L.drop k).take 5, h2 with
   | [q0, q1, q2, q3, q4], _ => exact ⟨q0, q1, q2, q3, q4, by rw [← hA, ← hC, ← hm]; exact h1⟩
 have hAl : A.length = k := by rw [← hA, List.length_take]; omega
 subst hAl
 rw [hq]
 simp
theorem own_set5 {w : World} {base g n cap k : Nat} {e : TypeId} {L A C : List Value} (a' b' c' d' e' : Value) (h : w.ownsRow base e 5 (.slice (some ⟨g, 0, none⟩) n cap) n L) (hA : L.take k = A) (hC : L.drop (k + 5) = C) (hk : k + 5 ≤ L.length) :
   (((((w.setCell ⟨g, k, none⟩ a').setCell ⟨g, k + 1, none⟩ b').setCell ⟨g, k + 2, none⟩ c').setCell ⟨g, k + 3, none⟩ d').setCell ⟨g, k + 4, none⟩ e').ownsRow base e 5 (.slice (some ⟨g, 0, none⟩) n cap) n (A ++ [a', b', c', d', e'] ++ C) := by
 rw [← mid5 hA hC hk a' b' c' d' e']
 exact (((((h.stored k a').1.stored (k + 1) b').1.stored (k + 2) c').1.stored (k + 3) d').1.stored (k + 4) e').1
theorem wpList_copy_go {ops : Array Oper} {rest : List Oper} {o : Oper} {a : Act} {Q : Exit → Act → World → Prop} {w w' : World} {v' sv xv : Value} (hgd : o.guard = none) (s x : Operand) (t : TypeId)
   (ho : o.op = .call { callee := .builtin .copy, args := #[s, x], argTypes := #[t, t] }) (hs : a.eval s = sv) (hx : a.eval x = xv) (hr : (Builtin.copy_ #[t, t] o.type #[sv, xv]).run Tryz.prog w = .ok v' w') (h : wpList Tryz.prog ops Q rest (a.put o.dst v') w') : wpList Tryz.prog ops Q (o :: rest) a w := by
 refine wpList_plain hgd fun K hK => ?_
 unfold Oper.wp execOp
 simp only [ho, resolve, invoke, builtin, Sem.run_bind, Sem.run_pure, Result.andThen_ok, List.map_toArray, List.map_cons, List.map_nil, hs, hx, hr]
 exact hK _ _ h
theorem ownP_back {w w' : World} {base : Nat} {V : Value} (hb : Below w.heap.size w w') {q : Nat} (h : OwnP base w' V q) : OwnP base w V q ∨ w.heap.size ≤ q := by
 by_cases hq : q < w.heap.size
 · obtain ⟨e1, e2, n, xs, e3, e4⟩ := h
   refine Or.inl ⟨e1, e2, n, xs, e3, e4.imp id ?_⟩
   rintro ⟨g, cap, cur, rfl, h1, h2, h3⟩
   have : g = q := by simpa [Value.ownBlock] using e1
   subst this
   exact ⟨g, cap, cur, rfl, h1, (hb.block g hq).symm.trans h2, h3⟩
 · exact Or.inr (by omega)
def BindPost (w0 : World) (base : Nat) (w : World) (P : Nat) (V : Value) (CS : Array Value) (o : Nat) (t : TypeId) (b : Bd) (nm : ByteArray) (u : Tm) (e : Ending) (w' : World) : Prop := match bindB b nm u with
 | some b' => e = .returned (.bool true) ∧ ∃ V', w'.heap[P]? = some (.cells (CS.setIfInBounds o V') t (0, 0)) ∧ PS w0 base w' V' b' ∧ Fr base P V w w' ∧ ∀ q, OwnP base w' V' q → OwnP base w V q ∨ w.heap.size ≤ q
 | none => e = .returned (.bool false) ∧ Fr base P V w w'
theorem bind_any {base : Nat} {w0 w : World} (h00 : w0.heap.size ≤ base) (hB : Below w0.heap.size w0 w) (hbw : base ≤ w.heap.size) (b : Bd) (hs : Srt b) (V : Value) (hPS : PS w0 base w V b) (hroom : b.length < 100000) (P o : Nat) (CS : Array Value) (t : TypeId) (hP : w.heap[P]? = some (.cells CS t (0, 0))) (hCo : CS[o]? = some V) (hbP : base ≤ P) (ht : t ≠ 40)
   (nm : ByteArray) (hnm : nm.size ≤ maxLen) (u : Tm) (d0 d1 d2 d3 : Value) (hu : IsTm w0.heap.size w0 d0 d1 d2 d3 u) :
   Calls Tryz.prog 140 #[.pointer (some ⟨P, o, none⟩), .string nm, .agg #[d0, d1, d2, d3]] w (BindPost w0 base w P V CS o t b nm u) := by
 have hu0 := hu
 obtain ⟨k2, n2, s2, us2⟩ := u
 simp only [IsTm] at hu
 obtain ⟨rfl, _, rfl, _, rfl, _, a2, c2, rfl, _, _⟩ := hu
 have hP0 : P < w.heap.size := (gL hP)
 have hrd := hPS.read hB
 have HPL := Hi (fun (W : World) (hW : Below w.heap.size w W) => place_any b hs nm V W ((hPS.bdV hB).grow hW) (by omega))
 obtain ⟨xs, va, vc, hx, rfl, hvc, hvm, hr⟩ := hrd
 obtain ⟨W0, hW0⟩ : ∃ W0, w.alloc (.cells #[.int .u8 k2, .int .i64 n2, .string s2, .slice a2 us2.length c2] 24) = W0 := ⟨_, rfl⟩
 have hb0 : Below w.heap.size w W0 := by rw [← hW0]; exact (Below.refl _ w).alloc (Nat.le_refl _) _
 have hQ : W0.heap[w.heap.size]? = some (.cells #[.int .u8 k2, .int .i64 n2, .string s2, .slice a2 us2.length c2] 24 (0, 0)) := by rw [← hW0]; exact World.alloc_heap_new _ _
 have hpc0 := (hb0.block P hP0).trans hP
 have p0 := cells_at hpc0 o _ hCo
 obtain ⟨n0, hn0⟩ : ∃ n0, w.heap.size = n0 := ⟨_, rfl⟩
 have HB0 := Hi hb0
 have HQ0 := Hi hQ
 have HPC0 := Hi hpc0
 have HCO := Hi hCo
 have HPS := Hi hPS
 have HX := Hi hx
 have HR := Hi hr
 have HU := Hi hu0
 have HP := Hi hP
 have HB := Hi hB
 clear hb0 hQ hpc0 hCo hPS hx hr hu0 hP hB
 rcases look_idx (n := nm) hs with ⟨h1, h2, h3⟩ | ⟨h1, h2⟩
 · have hlk : (lookB b nm).isSome = true := by rw [h3]; rfl
   rw [hlk] at HPL
   obtain ⟨x, hxx⟩ : ∃ x, idxB b nm = x := ⟨_, rfl⟩
   rw [hxx] at HPL
   simp only [hxx] at h1 h2 h3
   obtain ⟨g, off, rfl, hg, hcell⟩ := HR.out (by intro e; rw [e] at h1; simp at h1)
   obtain ⟨_, _, e0, e1, e2, e3, y0, y1, y2, y3, hT⟩ := HX.out.at x h1
   obtain ⟨tq, htq⟩ : ∃ tq, b[x].2 = tq := ⟨_, rfl⟩
   rw [htq] at hT h3
   have hT0 := hT
   obtain ⟨k3, n3, s3, us3⟩ := tq
   simp only [IsTm] at hT
   obtain ⟨rfl, _, rfl, _, rfl, _, a3, c3, rfl, _, _⟩ := hT
   have q1 := hcell _ _ y0
   have q2 := hcell _ _ y1
   have q3 := hcell _ _ y2
   have q4 := hcell _ _ y3
   rw [← Nat.add_assoc] at q1 q2 q3 q4
   have i2 : (0 : Int) ≤ (x : Int) := by omega
   have i3 : (x : Int) < (b.length : Int) := by omega
   obtain ⟨EQ, hEQ⟩ : ∃ EQ, (Tm.cmp (.mk k3 n3 s3 us3) (.mk k2 n2 s2 us2) == 0) = EQ := ⟨_, rfl⟩
   have HEQ0 := Hi (fun (W : World) (hW : Below w.heap.size w W) => (show Calls Tryz.prog 38 #[.agg #[.int .u8 k3, .int .i64 n3, .string s3, .slice a3 us3.length c3], .agg #[.int .u8 k2, .int .i64 n2, .string s2, .slice a2 us2.length c2]] W fun e w2 => e = .returned (.bool EQ) ∧ Below W.heap.size W w2 from hEQ ▸ equal_any _ _ _ _ _ _ _ _ _ _ W ((hT0.below (HB.out.trans (hW.mono HB.out.size))).mono (Nat.le_trans HB.out.size hW.size)) ((HU.out.below (HB.out.trans (hW.mono HB.out.size))).mono (Nat.le_trans HB.out.size hW.size))))
   obtain ⟨l2, hl2⟩ : ∃ l2, us2.length = l2 := ⟨_, rfl⟩
   obtain ⟨l3, hl3⟩ : ∃ l3, us3.length = l3 := ⟨_, rfl⟩
   rw [hl2] at HQ0 HEQ0
   rw [hl3] at HEQ0 q4
   rw [hl2] at hW0 ⊢
   have HFIN := Hi (show bindB b nm (.mk k2 n2 s2 us2) = if EQ then some b else none by unfold bindB; rw [h3]; simp only [hEQ])
   have HQC := Hi (And.intro q1 (And.intro q2 (And.intro q3 q4)))
   have HG := Hi hg
   clear y0 y1 y2 y3 hT0 htq h2 h3 hlk hxx hEQ hcell q1 q2 q3 q4 hg
   go_enter Tryz.func140, Tryz.ntmps140
   go_wp2_with (go_at_call 80; refine (HPL.out _ HB0.out).mono ?_; rintro e W1 ⟨rfl, hb⟩)
   have HB1 := Hi (HB0.out.trans (hb.mono HB0.out.size))
   have zn := HB0.out.size
   have HPC := Hi ((hb.block P (by omega)).trans HPC0.out)
   have HPW := Hi (Nat.lt_of_lt_of_le hP0 HB1.out.size)
   have HQ := Hi (show W1.heap[n0]? = some (.cells #[.int .u8 k2, .int .i64 n2, .string s2, .slice a2 l2 c2] 24 (0, 0)) by rw [← hn0]; exact (hb.block _ (gL HQ0.out)).trans HQ0.out)
   have HGW := Hi (Nat.lt_of_lt_of_le HG.out HB1.out.size)
   have HZ := Hi (And.intro ((HB1.out.cell (p := ⟨g, off + x * 5 + 1, none⟩) HG.out).trans HQC.out.1) (And.intro ((HB1.out.cell (p := ⟨g, off + x * 5 + 2, none⟩) HG.out).trans HQC.out.2.1) (And.intro ((HB1.out.cell (p := ⟨g, off + x * 5 + 3, none⟩) HG.out).trans HQC.out.2.2.1) ((HB1.out.cell (p := ⟨g, off + x * 5 + 4, none⟩) HG.out).trans HQC.out.2.2.2))))
   have HEQ := Hi (fun (W : World) (hW : Below W1.heap.size W1 W) => HEQ0.out W (HB1.out.trans (hW.mono HB1.out.size)))
   clear hb zn HPC0 HQ0 HEQ0 HPL p0
   refine wp_region_grow_or (by kernel_rfl) (FU (ds48_3 b P o x g off n0 vc k2 n2 k3 n3 s2 s3 a2 a3 l2 c2 l3 c3 EQ )) (FU_grow _) (by kernel_rfl) (steps_or ?_) ?_
   · refine ⟨?_, ?_, ?_, ?_, ?_, ?_, ?_, ?_, ?_, ?_, trivial⟩
     · intro ac wz hb hd hs ho hp
       refine Or.inl ⟨rfl, ?_⟩
       have h0 : ac.tmps.getD 0 undef = .pointer (some ⟨P, o, none⟩) := (ho 0 (by kernel_rfl)).trans rfl
       unfold Oper.wp
       go_simp
       exact Stepped.at rfl hd bR (FU_mk _ rfl (by show (_ : Value) = _; first | rfl | (first | rfl | simp) | (simp [*])))
     · intro ac wz hb hd hs ho hp
       refine Or.inl ⟨rfl, ?_⟩
       have h18 := uval_at hp 0 18 (by kernel_rfl) rfl
       unfold Oper.wp
       go_simp
       exact Stepped.at rfl hd bR (FU_mk _ rfl (by show (_ : Value) = _; first | rfl | (first | rfl | simp) | (simp [*])))
     · intro ac wz hb hd hs ho hp
       refine Or.inl ⟨rfl, ?_⟩
       have h19 := uval_at hp 1 19 (by kernel_rfl) rfl
       have hx := (hb.block P HPW.out).trans HPC.out
       have x0 := cells_at hx o _ HCO.out
       unfold Oper.wp
       go_simp
       exact Stepped.at rfl hd bR (FU_mk _ rfl (by show (_ : Value) = _; first | rfl | (first | rfl | simp) | (simp [*])))
     · intro ac wz hb hd hs ho hp
       refine Or.inl ⟨rfl, ?_⟩
       have h7 : ac.tmps.getD 7 undef = .int .i64 (x) := (ho 7 (by kernel_rfl)).trans rfl
       unfold Oper.wp
       go_simp
       exact Stepped.at rfl hd bR (FU_mk _ rfl (by show (_ : Value) = _; first | rfl | (first | rfl | simp) | (simp [*])))
     · intro ac wz hb hd hs ho hp
       refine Or.inl ⟨rfl, ?_⟩
       have h20 := uval_at hp 2 20 (by kernel_rfl) rfl
       have h21 := uval_at hp 3 21 (by kernel_rfl) rfl
       unfold Oper.wp
       go_simp
       exact Stepped.at rfl hd bR (FU_mk _ rfl (by show (_ : Value) = _; first | rfl | (first | rfl | simp) | (simp [*])))
     · intro ac wz hb hd hs ho hp
       refine Or.inl ⟨rfl, ?_⟩
       have h22 := uval_at hp 4 22 (by kernel_rfl) rfl
       unfold Oper.wp
       go_simp
       exact Stepped.at rfl hd bR (FU_mk _ rfl (by show (_ : Value) = _; first | rfl | (first | rfl | simp) | (simp [*])))
     · intro ac wz hb hd hs ho hp
       refine Or.inl ⟨rfl, ?_⟩
       have h23 := uval_at hp 5 23 (by kernel_rfl) rfl
       have x1 := (hb.cell (p := ⟨g, off + x * 5 + 1, none⟩) HGW.out).trans HZ.out.1
       have x2 := (hb.cell (p := ⟨g, off + x * 5 + 2, none⟩) HGW.out).trans HZ.out.2.1
       have x3 := (hb.cell (p := ⟨g, off + x * 5 + 3, none⟩) HGW.out).trans HZ.out.2.2.1
       have x4 := (hb.cell (p := ⟨g, off + x * 5 + 4, none⟩) HGW.out).trans HZ.out.2.2.2
       unfold Oper.wp
       go_simp
       exact Stepped.at rfl hd bR (FU_mk _ rfl (by show (_ : Value) = _; first | rfl | (first | rfl | simp) | (simp [*])))
     · intro ac wz hb hd hs ho hp
       refine Or.inl ⟨rfl, ?_⟩
       have h5 : ac.tmps.getD 5 undef = .pointer (some ⟨n0, 0, none⟩) := (ho 5 (by kernel_rfl)).trans rfl
       have hx := (hb.block n0 (gL HQ.out)).trans HQ.out
       have x0 := cells_at hx 0 _ rfl
       have x1 := cells_at hx 1 _ rfl
       have x2 := cells_at hx 2 _ rfl
       have x3 := cells_at hx 3 _ rfl
       unfold Oper.wp
       go_simp
       exact Stepped.at rfl hd bR (FU_mk _ rfl (by show (_ : Value) = _; first | rfl | (first | rfl | simp) | (simp [*])))
     · intro ac wz hb hd hs ho hp
       refine Or.inl ⟨rfl, ?_⟩
       have h24 := uval_at hp 6 24 (by kernel_rfl) rfl
       have h25 := uval_at hp 7 25 (by kernel_rfl) rfl
       unfold Oper.wp
       go_simp
       refine (HEQ.out _ hb).mono ?_
       rintro e2 w2 ⟨rfl, hb2⟩
       exact Stepped.at rfl hd (hb2) (FU_mk _ rfl (by show (_ : Value) = _; first | rfl | simp))
     · intro ac wz hb hd hs ho hp
       refine Or.inl ⟨rfl, ?_⟩
       have h26 := uval_at hp 8 26 (by kernel_rfl) rfl
       unfold Oper.wp
       go_simp
       exact Stepped.at rfl hd bR (FU_mk _ rfl (by show (_ : Value) = _; first | rfl | (first | rfl | simp) | (simp [*])))
   intro ac W5 hJ
   have f6 : ac.tmps.getD 6 undef = .bool (EQ) := FU_at (.val (.bool (EQ))) rfl (hJ.at_end 9 6 (by kernel_rfl))
   obtain ⟨u18, f18⟩ := exV (ac.tmps.getD 18 undef)
   obtain ⟨u19, f19⟩ := exV (ac.tmps.getD 19 undef)
   obtain ⟨u20, f20⟩ := exV (ac.tmps.getD 20 undef)
   obtain ⟨u21, f21⟩ := exV (ac.tmps.getD 21 undef)
   obtain ⟨u22, f22⟩ := exV (ac.tmps.getD 22 undef)
   obtain ⟨u23, f23⟩ := exV (ac.tmps.getD 23 undef)
   obtain ⟨u24, f24⟩ := exV (ac.tmps.getD 24 undef)
   obtain ⟨u25, f25⟩ := exV (ac.tmps.getD 25 undef)
   obtain ⟨u26, f26⟩ := exV (ac.tmps.getD 26 undef)
   have bw5 := hJ.below
   obtain ⟨TT, DD⟩ := ac
   obtain rfl : DD = [] := hJ.defers
   have hE := slots_merge [false, false, false, false, false, false, true, false, false, false, false, false, false, false, false, false, false, false, true, true, true, true, true, true, true, true, true, false, false, false, false, false, false, false, false, false, false, false, false, false, false, false, false, false, false, false, false, false, false, false, false, false, false, false, false] 55 hJ.tmps rfl (by kernel_rfl) hJ.outer
   simp only [mergeFrom, Nat.zero_add, Nat.reduceAdd, f18, f19, f20, f21, f22, f23, f24, f25, f26, f6] at hE
   clear hJ f18 f19 f20 f21 f22 f23 f24 f25 f26 f6 
   subst hE
   have HBF := Hi (HB1.out.trans (bw5.mono HB1.out.size))
   clear bw5
   go_wp2
   go_ret
   unfold BindPost
   rw [HFIN.out]
   cases EQ with
   | true => exact ⟨rfl, _, by rw [set_self HCO.out]; exact (HBF.out.block P hP0).trans HP.out, HPS.out.grow HBF.out, Fr.of_below HBF.out, fun q hq => ownP_back HBF.out hq⟩
   | false => exact ⟨rfl, Fr.of_below HBF.out⟩
 · have hlk : (lookB b nm).isSome = false := by rw [h1]; rfl
   rw [hlk] at HPL
   have HL1 := Hi h1
   have hidx := idx_le b nm
   obtain ⟨x, hxx⟩ : ∃ x, idxB b nm = x := ⟨_, rfl⟩
   rw [hxx] at HPL hidx
   have HXX := Hi hxx
   obtain ⟨l2, hl2⟩ : ∃ l2, us2.length = l2 := ⟨_, rfl⟩
   rw [hl2] at HQ0 hW0 ⊢
   clear h1 h2 hlk hxx
   go_enter Tryz.func140, Tryz.ntmps140
   go_wp2_with (first | (at_builtin; obtain ⟨xs2, v', w', hx2, hr2, hown, hfr, hbl, hat⟩ := append_pair h00 (HB.out.trans (BA.out.mono HB.out.size)) (Nat.le_trans hbw BA.out.size) (HPS.out.grow BA.out) hroom 66 W1.heap.size [.string ⟨#[]⟩, .int .u8 0, .int .i64 0, .string ⟨#[]⟩, .slice none 0 0] rfl (fun j u hj => z5_cells (World.alloc_heap_new W1 (.cells #[.string ⟨#[]⟩, .int .u8 0, .int .i64 0, .string ⟨#[]⟩, .slice none 0 0] 40)) j u hj) (by simp [Value.oneCell']); obtain ⟨sa, sn, sc, rfl⟩ := own_slice hown; refine wpList_append_run rfl _ _ _ rfl rfl rfl hr2 ?_; have hpc := (hbl P (by have := BA.out.size; omega) (OwnP.not HPCA.out ht)).trans HPCA.out; have p1 := cells_at hpc o _ HCO.out; have p2 := frozen_of_row w' P o _ _ hpc) | (go_at_call 80; refine (HPL.out _ HB0.out).mono ?_; rintro e W1 ⟨rfl, hb⟩; have HB1 := Hi (HB0.out.trans (hb.mono HB0.out.size)); have BA := Hi (HB1.out.alloc HB1.out.size (.cells #[.string ⟨#[]⟩, .int .u8 0, .int .i64 0, .string ⟨#[]⟩, .slice none 0 0] 40)); have hpc1 := (HB1.out.block P hP0).trans HP.out; have p0 := cells_at hpc1 o _ HCO.out; have HPCA := Hi ((BA.out.block P hP0).trans HP.out); have HQ1 := Hi ((hb.block w.heap.size (gL HQ0.out)).trans HQ0.out); have HB0P := Hi hP0; clear hb hpc1))
   obtain ⟨W6, hW6⟩ : ∃ W6, w'.setCell ⟨P, o, none⟩ (.slice sa sn sc) = W6 := ⟨_, rfl⟩
   rw [hW6]
   have hg6 : ∃ g6 cur, sa = some ⟨g6, 0, none⟩ ∧ sn = b.length + 1 ∧ base ≤ g6 ∧ w'.heap[g6]? = some (.cells cur 40 (0, 0)) ∧ b.length + 1 ≤ sc ∧ sc ≤ maxLen ∧ cur.size = sc * 5 ∧ cur.toList.take ((b.length + 1) * 5) = xs2 ++ [.string ⟨#[]⟩, .int .u8 0, .int .i64 0, .string ⟨#[]⟩, .slice none 0 0] := by
     rcases hown.2 with ⟨_, h0⟩ | ⟨g, cap, cur, e, q1, q2, q3, q4, q5, q6⟩
     · omega
     · simp only [Value.slice.injEq] at e
       obtain ⟨rfl, rfl, rfl⟩ := e
       exact ⟨g, cur, rfl, rfl, q1, q2, q3, q4, q5, q6⟩
   obtain ⟨g6, cur, rfl, rfl, hg6b, hg6, hsc, hscm, hcs, htk⟩ := hg6
   have hgP : g6 ≠ P := fun e => by
     subst e
     rw [hpc] at hg6
     simp only [Option.some.injEq, Obj.cells.injEq] at hg6
     exact ht hg6.2.1
   have hpw6 : W6.heap[P]? = some (.cells (CS.setIfInBounds o (.slice (some ⟨g6, 0, none⟩) (b.length + 1) sc)) t (0, 0)) := by rw [← hW6, setCell_eq_setRow w' P o CS t (0, 0) _ hpc]; exact setRow_heap w' P CS _ t _ hpc
   have hg66 : W6.heap[g6]? = some (.cells cur 40 (0, 0)) := by rw [← hW6]; exact (Below.heap_setCell _ _ _ g6 (by simpa using hgP)).trans hg6
   have hc6 : (CS.setIfInBounds o (.slice (some ⟨g6, 0, none⟩) (b.length + 1) sc))[o]? = some (.slice (some ⟨g6, 0, none⟩) (b.length + 1) sc) := by
     have := (gL HCO.out)
     simp [this]
   have HP6 := Hi hpw6
   have HP6W := Hi (gL hpw6)
   have HC6 := Hi hc6
   have HG6 := Hi hg66
   have HTK := Hi htk
   have hwx : IntKind.i64.wrap ((x : Int) + 1) = ((x + 1 : Nat) : Int) := by rw [IntWalk.i64_in _ (by omega)]; omega
   have hxl := hx2.len
   have HX2 := Hi hx2
   clear hpw6 hc6 hg66 htk
   refine wp_region_grow_tail (by kernel_rfl) 11 (FQ [.val (.pointer (some ⟨P, o, none⟩)), .val (.pointer (some ⟨P, o, none⟩)), .val (.slice (some ⟨g6, 0, none⟩) (b.length + 1) sc), .val (.int .i64 x), .val (.int .i64 ((x + 1 : Nat) : Int)), .val (.slice (if sc = x + 1 then some ⟨g6, 0, none⟩ else some ⟨g6, (x + 1) * 5, none⟩) (b.length - x) (sc - (x + 1))), .val (.pointer (some ⟨P, o, none⟩)), .val (.pointer (some ⟨P, o, none⟩)), .val (.slice (some ⟨g6, 0, none⟩) (b.length + 1) sc), .val (.int .i64 x), .val (.slice (some ⟨g6, x * 5, none⟩) (b.length + 1 - x) (sc - x))]) (FQ_grow _) (by kernel_rfl) (by kernel_rfl) (steps_to ?_) ?_
   · simp only [List.take_succ_cons, List.take_zero]
     refine ⟨?_, ?_, ?_, ?_, ?_, ?_, ?_, ?_, ?_, ?_, ?_, trivial⟩
     · intro a wx hb hd hs ho hp
       refine ⟨rfl, ?_⟩
       have h0 : a.tmps.getD 0 undef = .pointer (some ⟨P, o, none⟩) := (ho 0 (by kernel_rfl)).trans rfl
       unfold Oper.wp
       go_simp
       exact Stepped.at rfl hd bR (FQ_mk (.val (.pointer (some ⟨P, o, none⟩))) rfl (by first | rfl | simp))
     · intro a wx hb hd hs ho hp
       refine ⟨rfl, ?_⟩
       have h35 : a.tmps.getD 35 undef = .pointer (some ⟨P, o, none⟩) := qval_at hp 0 35 (by kernel_rfl) rfl
       unfold Oper.wp
       go_simp
       exact Stepped.at rfl hd bR (FQ_mk (.val (.pointer (some ⟨P, o, none⟩))) rfl (by first | rfl | simp))
     · intro a wx hb hd hs ho hp
       refine ⟨rfl, ?_⟩
       have h36 : a.tmps.getD 36 undef = .pointer (some ⟨P, o, none⟩) := qval_at hp 1 36 (by kernel_rfl) rfl
       have hx := (hb.block P HP6W.out).trans HP6.out
       have x0 := cells_at hx o _ HC6.out
       unfold Oper.wp
       go_simp
       exact Stepped.at rfl hd bR (FQ_mk (.val (.slice (some ⟨g6, 0, none⟩) (b.length + 1) sc)) rfl (by first | rfl | simp))
     · intro a wx hb hd hs ho hp
       refine ⟨rfl, ?_⟩
       have h7 : a.tmps.getD 7 undef = .int .i64 x := (ho 7 (by kernel_rfl)).trans rfl
       unfold Oper.wp
       go_simp
       exact Stepped.at rfl hd bR (FQ_mk (.val (.int .i64 x)) rfl (by first | rfl | simp))
     · intro a wx hb hd hs ho hp
       refine ⟨rfl, ?_⟩
       have h38 : a.tmps.getD 38 undef = .int .i64 x := qval_at hp 3 38 (by kernel_rfl) rfl
       have hw := hwx
       unfold Oper.wp
       go_simp
       exact Stepped.at rfl hd bR (FQ_mk (.val (.int .i64 ((x + 1 : Nat) : Int))) rfl (by first | rfl | simp))
     · intro a wx hb hd hs ho hp
       refine ⟨rfl, ?_⟩
       have h37 : a.tmps.getD 37 undef = .slice (some ⟨g6, 0, none⟩) (b.length + 1) sc := qval_at hp 2 37 (by kernel_rfl) rfl
       have h39 : a.tmps.getD 39 undef = .int .i64 ((x + 1 : Nat) : Int) := qval_at hp 4 39 (by kernel_rfl) rfl
       have i5 : (0 : Int) ≤ ((x + 1 : Nat) : Int) := by omega
       have i6 : ((x + 1 : Nat) : Int) ≤ ((b.length + 1 : Nat) : Int) := by omega
       have i7 : ((b.length + 1 : Nat) : Int) ≤ (sc : Int) := by omega
       unfold Oper.wp
       go_simp
       refine Stepped.at (v := .slice (if sc = x + 1 then some ⟨g6, 0, none⟩ else some ⟨g6, (x + 1) * 5, none⟩) (b.length - x) (sc - (x + 1))) ?_ ?_ bR ?_
       · first | rfl | simp
       · first | exact hd | rfl
       · exact FQ_mk (.val (.slice (if sc = x + 1 then some ⟨g6, 0, none⟩ else some ⟨g6, (x + 1) * 5, none⟩) (b.length - x) (sc - (x + 1)))) rfl rfl
     · intro a wx hb hd hs ho hp
       refine ⟨rfl, ?_⟩
       have h0 : a.tmps.getD 0 undef = .pointer (some ⟨P, o, none⟩) := (ho 0 (by kernel_rfl)).trans rfl
       unfold Oper.wp
       go_simp
       exact Stepped.at rfl hd bR (FQ_mk (.val (.pointer (some ⟨P, o, none⟩))) rfl (by first | rfl | simp))
     · intro a wx hb hd hs ho hp
       refine ⟨rfl, ?_⟩
       have h41 : a.tmps.getD 41 undef = .pointer (some ⟨P, o, none⟩) := qval_at hp 6 41 (by kernel_rfl) rfl
       unfold Oper.wp
       go_simp
       exact Stepped.at rfl hd bR (FQ_mk (.val (.pointer (some ⟨P, o, none⟩))) rfl (by first | rfl | simp))
     · intro a wx hb hd hs ho hp
       refine ⟨rfl, ?_⟩
       have h42 : a.tmps.getD 42 undef = .pointer (some ⟨P, o, none⟩) := qval_at hp 7 42 (by kernel_rfl) rfl
       have hx := (hb.block P HP6W.out).trans HP6.out
       have x0 := cells_at hx o _ HC6.out
       unfold Oper.wp
       go_simp
       exact Stepped.at rfl hd bR (FQ_mk (.val (.slice (some ⟨g6, 0, none⟩) (b.length + 1) sc)) rfl (by first | rfl | simp))
     · intro a wx hb hd hs ho hp
       refine ⟨rfl, ?_⟩
       have h7 : a.tmps.getD 7 undef = .int .i64 x := (ho 7 (by kernel_rfl)).trans rfl
       unfold Oper.wp
       go_simp
       exact Stepped.at rfl hd bR (FQ_mk (.val (.int .i64 x)) rfl (by first | rfl | simp))
     · intro a wx hb hd hs ho hp
       refine ⟨rfl, ?_⟩
       have h43 : a.tmps.getD 43 undef = .slice (some ⟨g6, 0, none⟩) (b.length + 1) sc := qval_at hp 8 43 (by kernel_rfl) rfl
       have h44 : a.tmps.getD 44 undef = .int .i64 x := qval_at hp 9 44 (by kernel_rfl) rfl
       have i5 : (0 : Int) ≤ (x : Int) := by omega
       have i6 : (x : Int) ≤ (b.length : Int) + 1 := by omega
       have i9 : ¬ sc = x := by omega
       have i7 : ((b.length + 1 : Nat) : Int) ≤ (sc : Int) := by omega
       unfold Oper.wp
       go_simp
       refine Stepped.at (v := .slice (some ⟨g6, x * 5, none⟩) (b.length + 1 - x) (sc - x)) ?_ ?_ bR ?_
       · first | rfl | simp
       · first | exact hd | rfl
       · exact FQ_mk (.val (.slice (some ⟨g6, x * 5, none⟩) (b.length + 1 - x) (sc - x))) rfl rfl
   · intro a wx hbx hd hs2 ho2 hf
     have k40 : a.tmps.getD 40 undef = .slice (if sc = x + 1 then some ⟨g6, 0, none⟩ else some ⟨g6, (x + 1) * 5, none⟩) (b.length - x) (sc - (x + 1)) := FQ_at (.val (.slice (if sc = x + 1 then some ⟨g6, 0, none⟩ else some ⟨g6, (x + 1) * 5, none⟩) (b.length - x) (sc - (x + 1)))) rfl (facts_to hf 5 40 (by decide) (by kernel_rfl))
     have k45 : a.tmps.getD 45 undef = .slice (some ⟨g6, x * 5, none⟩) (b.length + 1 - x) (sc - x) := FQ_at (.val (.slice (some ⟨g6, x * 5, none⟩) (b.length + 1 - x) (sc - x))) rfl (facts_to hf 10 45 (by decide) (by kernel_rfl))
     obtain ⟨u35, f35⟩ := exV (a.tmps.getD 35 undef)
     obtain ⟨u36, f36⟩ := exV (a.tmps.getD 36 undef)
     obtain ⟨u37, f37⟩ := exV (a.tmps.getD 37 undef)
     obtain ⟨u38, f38⟩ := exV (a.tmps.getD 38 undef)
     obtain ⟨u39, f39⟩ := exV (a.tmps.getD 39 undef)
     obtain ⟨u41, f41⟩ := exV (a.tmps.getD 41 undef)
     obtain ⟨u42, f42⟩ := exV (a.tmps.getD 42 undef)
     obtain ⟨u43, f43⟩ := exV (a.tmps.getD 43 undef)
     obtain ⟨u44, f44⟩ := exV (a.tmps.getD 44 undef)
     have hE := slots_mergeP [false, false, false, false, false, false, false, false, false, false, false, false, false, false, false, false, false, false, false, false, false, false, false, false, false, false, false, false, false, false, false, false, false, false, false, true, true, true, true, true, true, true, true, true, true, true, false, false, false, false, false, false, false, false, false] 55 hs2 rfl (by kernel_rfl) ho2
     simp only [mergeFrom, Nat.zero_add, Nat.reduceAdd, k40, k45, f35, f36, f37, f38, f39, f41, f42, f43, f44] at hE
     obtain ⟨TT, DD⟩ := a
     simp only at hE hd
     subst hd hE
     clear k40 k45 f35 f36 f37 f38 f39 f41 f42 f43 f44 hf hs2 ho2
     have HBX := Hi hbx
     have hgx := (hbx.block g6 (gL HG6.out)).trans HG6.out
     clear hbx
     obtain ⟨wc, hrun, ⟨cur2, hgc, hsz2, htA, htC⟩, hoc, hszc, hosc⟩ := copy_shift wx g6 sc b.length x cur xs2 _ hxl rfl hidx hsc hgx hcs HTK.out (HX2.out.one)
     generalize (if sc = x + 1 then some (⟨g6, 0, none⟩ : Addr) else some ⟨g6, (x + 1) * 5, none⟩) = A40 at hrun ⊢
     have HRUN := Hi hrun
     clear hrun
     have hc2 : cur2.size = sc * 5 := hsz2.trans hcs
     have hcl2 : cur2.toList.length = sc * 5 := by rw [Array.length_toList]; exact hc2
     have hPc := (hoc P (fun e => hgP e.symm)).trans ((HBX.out.block P HP6W.out).trans HP6.out)
     have hq1 := (BA.out.size)
     have hn0P : w.heap.size ≠ P := by omega
     have hQa : (W1.alloc (.cells #[.string ⟨#[]⟩, .int .u8 0, .int .i64 0, .string ⟨#[]⟩, .slice none 0 0] 40)).heap[w.heap.size]? = some (.cells #[.int .u8 k2, .int .i64 n2, .string s2, .slice a2 l2 c2] 24 (0, 0)) := (Below.heap_alloc _ _ _ (gL HQ1.out)).trans HQ1.out
     have hQw := (hbl w.heap.size (gL hQa) (OwnP.not hQa (by decide))).trans hQa
     have hn0g : w.heap.size ≠ g6 := fun e => by
       rw [← e, hQw] at hg6
       simp only [Option.some.injEq, Obj.cells.injEq] at hg6
       exact absurd hg6.2.1 (by decide)
     have hQ6 : W6.heap[w.heap.size]? = some (.cells #[.int .u8 k2, .int .i64 n2, .string s2, .slice a2 l2 c2] 24 (0, 0)) := by rw [← hW6]; exact (Below.heap_setCell _ _ _ w.heap.size (by simpa using hn0P)).trans hQw
     have hQx := (HBX.out.block w.heap.size (gL hQ6)).trans hQ6
     have hQc := (hoc w.heap.size hn0g).trans hQx
     have HPC9 := Hi hPc
     have HPCW := Hi (gL hPc)
     have HQC9 := Hi (show wc.heap[n0]? = some (.cells #[.int .u8 k2, .int .i64 n2, .string s2, .slice a2 l2 c2] 24 (0, 0)) by rw [← hn0]; exact hQc)
     have HQCW := Hi (show n0 < wc.heap.size by rw [← hn0]; exact (gL hQc))
     have hownc : wc.ownsRow base 40 5 (.slice (some ⟨g6, 0, none⟩) (b.length + 1) sc) (b.length + 1) (cur2.toList.take ((b.length + 1) * 5)) := ⟨by rw [List.length_take, hcl2]; omega, Or.inr ⟨g6, sc, cur2, rfl, hg6b, hgc, hsc, hscm, hc2, rfl⟩⟩
     have HOC := Hi hownc
     have HA5 := Hi (show (cur2.toList.take ((b.length + 1) * 5)).take (x * 5) = xs2.take (x * 5) by rw [List.take_take, Nat.min_eq_left (by omega)]; exact htA)
     have HC5 := Hi (show (cur2.toList.take ((b.length + 1) * 5)).drop (x * 5 + 5) = xs2.drop (x * 5) by rw [List.drop_take, show (b.length + 1) * 5 - (x * 5 + 5) = (b.length - x) * 5 by omega, show x * 5 + 5 = (x + 1) * 5 by omega]; exact htC)
     have HK5 := Hi (show x * 5 + 5 ≤ (cur2.toList.take ((b.length + 1) * 5)).length by rw [hownc.1]; omega)
     have HG6P := Hi hgP
     have HCH := Hi (show ∀ k, k < w.heap.size → k ≠ P → k ≠ g6 → ¬ OwnP base w (.slice va b.length vc) k → wc.heap[k]? = w.heap[k]? from fun k hk h1 h2 h3 => by
       have hk1 : k < (W1.alloc (.cells #[.string ⟨#[]⟩, .int .u8 0, .int .i64 0, .string ⟨#[]⟩, .slice none 0 0] 40)).heap.size := Nat.lt_of_lt_of_le hk BA.out.size
       have e1 := BA.out.block k hk
       have e2 := hbl k hk1 fun h => (ownP_back BA.out h).elim h3 (fun h => by omega)
       have e3 : W6.heap[k]? = w'.heap[k]? := by rw [← hW6]; exact Below.heap_setCell _ _ _ k (by simpa using h1)
       have hk6 : k < W6.heap.size := by
         have : W6.heap.size = w'.heap.size := by rw [← hW6]; simp [World.setCell]
         have := hfr.2.2.2; omega
       exact (hoc k h2).trans ((HBX.out.block k hk6).trans (e3.trans (e2.trans e1))))
     have HG6O := Hi (show OwnP base w (.slice va b.length vc) g6 ∨ w.heap.size ≤ g6 from (hat g6 rfl).elim (fun h => ownP_back BA.out h) (fun h => Or.inr (Nat.le_trans BA.out.size h)))
     have HSZ := Hi (show w.heap.size ≤ wc.heap.size by
       have : W6.heap.size = w'.heap.size := by rw [← hW6]; simp [World.setCell]
       have := hfr.2.2.2; have := HBX.out.size; omega)
     have HOS := Hi (show wc.os = w.os ∧ wc.tape = w.tape ∧ wc.output = w.output by
       refine ⟨hosc.1.trans (HBX.out.os.trans ?_), hosc.2.1.trans (HBX.out.tape.trans ?_), hosc.2.2.trans (HBX.out.output.trans ?_)⟩
       · rw [← hW6]; exact hfr.1.trans BA.out.os
       · rw [← hW6]; exact hfr.2.1.trans BA.out.tape
       · rw [← hW6]; exact hfr.2.2.1.trans BA.out.output)
     clear hPc hQa hQw hn0g hQ6 hQx hQc hownc hoc hszc hosc htA htC hgc hsz2 hgx HBX hg6 hat hbl hfr hown hr2 hW6 hpc p1 p2 hxl hgP
     simp only [List.drop_succ_cons, List.drop_zero]
     refine wpList_copy_go rfl _ _ _ rfl rfl rfl HRUN.out ?_
     simp only [Act.put, List.setIfInBounds_toArray, List.set_cons_succ, List.set_cons_zero]
     go_wp2_with fail
     refine wp_region_grow_tail (by kernel_rfl) 8 (FQ [.val (.pointer (some ⟨P, o, none⟩)), .val (.pointer (some ⟨P, o, none⟩)), .val (.slice (some ⟨g6, 0, none⟩) (b.length + 1) sc), .val (.int .i64 x), .val (.string nm), .val (.agg #[.int .u8 k2, .int .i64 n2, .string s2, .slice a2 l2 c2]), .val (.agg #[.string nm, .int .u8 k2, .int .i64 n2, .string s2, .slice a2 l2 c2]), .val (.pointer (some ⟨g6, x * 5, none⟩))]) (FQ_grow _) (by kernel_rfl) (by kernel_rfl) (steps_to ?_) ?_
     · simp only [List.take_succ_cons, List.take_zero]
       refine ⟨?_, ?_, ?_, ?_, ?_, ?_, ?_, ?_, trivial⟩
       · intro a wx2 hb hd hs ho hp
         refine ⟨rfl, ?_⟩
         have h0 : a.tmps.getD 0 undef = .pointer (some ⟨P, o, none⟩) := (ho 0 (by kernel_rfl)).trans rfl
         unfold Oper.wp
         go_simp
         refine Stepped.at (v := .pointer (some ⟨P, o, none⟩)) ?_ ?_ bR ?_
         · first | rfl | simp
         · first | exact hd | rfl
         · exact FQ_mk (.val (.pointer (some ⟨P, o, none⟩))) rfl rfl
       · intro a wx2 hb hd hs ho hp
         refine ⟨rfl, ?_⟩
         have h47 : a.tmps.getD 47 undef = .pointer (some ⟨P, o, none⟩) := qval_at hp 0 47 (by kernel_rfl) rfl
         unfold Oper.wp
         go_simp
         refine Stepped.at (v := .pointer (some ⟨P, o, none⟩)) ?_ ?_ bR ?_
         · first | rfl | simp
         · first | exact hd | rfl
         · exact FQ_mk (.val (.pointer (some ⟨P, o, none⟩))) rfl rfl
       · intro a wx2 hb hd hs ho hp
         refine ⟨rfl, ?_⟩
         have h48 : a.tmps.getD 48 undef = .pointer (some ⟨P, o, none⟩) := qval_at hp 1 48 (by kernel_rfl) rfl
         have hx := (hb.block P HPCW.out).trans HPC9.out
         have x0 := cells_at hx o _ HC6.out
         unfold Oper.wp
         go_simp
         refine Stepped.at (v := .slice (some ⟨g6, 0, none⟩) (b.length + 1) sc) ?_ ?_ bR ?_
         · first | rfl | simp
         · first | exact hd | rfl
         · exact FQ_mk (.val (.slice (some ⟨g6, 0, none⟩) (b.length + 1) sc)) rfl rfl
       · intro a wx2 hb hd hs ho hp
         refine ⟨rfl, ?_⟩
         have h7 : a.tmps.getD 7 undef = .int .i64 x := (ho 7 (by kernel_rfl)).trans rfl
         unfold Oper.wp
         go_simp
         refine Stepped.at (v := .int .i64 x) ?_ ?_ bR ?_
         · first | rfl | simp
         · first | exact hd | rfl
         · exact FQ_mk (.val (.int .i64 x)) rfl rfl
       · intro a wx2 hb hd hs ho hp
         refine ⟨rfl, ?_⟩
         have h1 : a.tmps.getD 1 undef = .string nm := (ho 1 (by kernel_rfl)).trans rfl
         unfold Oper.wp
         go_simp
         refine Stepped.at (v := .string nm) ?_ ?_ bR ?_
         · first | rfl | simp
         · first | exact hd | rfl
         · exact FQ_mk (.val (.string nm)) rfl rfl
       · intro a wx2 hb hd hs ho hp
         refine ⟨rfl, ?_⟩
         have h5 : a.tmps.getD 5 undef = .pointer (some ⟨n0, 0, none⟩) := (ho 5 (by kernel_rfl)).trans rfl
         have hx := (hb.block n0 HQCW.out).trans HQC9.out
         have x0 := cells_at hx 0 _ rfl
         have x1 := cells_at hx 1 _ rfl
         have x2 := cells_at hx 2 _ rfl
         have x3 := cells_at hx 3 _ rfl
         unfold Oper.wp
         go_simp
         refine Stepped.at (v := .agg #[.int .u8 k2, .int .i64 n2, .string s2, .slice a2 l2 c2]) ?_ ?_ bR ?_
         · first | rfl | simp
         · first | exact hd | rfl
         · exact FQ_mk (.val (.agg #[.int .u8 k2, .int .i64 n2, .string s2, .slice a2 l2 c2])) rfl rfl
       · intro a wx2 hb hd hs ho hp
         refine ⟨rfl, ?_⟩
         have h51 : a.tmps.getD 51 undef = .string nm := qval_at hp 4 51 (by kernel_rfl) rfl
         have h52 : a.tmps.getD 52 undef = .agg #[.int .u8 k2, .int .i64 n2, .string s2, .slice a2 l2 c2] := qval_at hp 5 52 (by kernel_rfl) rfl
         have s51 := qslot_of (hs.trans (show _ = 55 from rfl)) (by decide) h51
         have s52 := qslot_of (hs.trans (show _ = 55 from rfl)) (by decide) h52
         unfold Oper.wp
         go_simp
         refine Stepped.at (v := .agg #[.string nm, .int .u8 k2, .int .i64 n2, .string s2, .slice a2 l2 c2]) ?_ ?_ bR ?_
         · first | rfl | simp
         · first | exact hd | rfl
         · exact FQ_mk (.val (.agg #[.string nm, .int .u8 k2, .int .i64 n2, .string s2, .slice a2 l2 c2])) rfl rfl
       · intro a wx2 hb hd hs ho hp
         refine ⟨rfl, ?_⟩
         have h49 : a.tmps.getD 49 undef = .slice (some ⟨g6, 0, none⟩) (b.length + 1) sc := qval_at hp 2 49 (by kernel_rfl) rfl
         have h50 : a.tmps.getD 50 undef = .int .i64 x := qval_at hp 3 50 (by kernel_rfl) rfl
         have i1 : (0 : Int) ≤ (x : Int) := by omega
         have i2 : (x : Int) < (b.length : Int) + 1 := by omega
         unfold Oper.wp
         go_simp
         refine Stepped.at (v := .pointer (some ⟨g6, x * 5, none⟩)) ?_ ?_ bR ?_
         · first | rfl | simp
         · first | exact hd | rfl
         · exact FQ_mk (.val (.pointer (some ⟨g6, x * 5, none⟩))) rfl rfl
     · intro a wz hbz hd hs2 ho2 hf
       have k53 : a.tmps.getD 53 undef = .agg #[.string nm, .int .u8 k2, .int .i64 n2, .string s2, .slice a2 l2 c2] := FQ_at (.val (.agg #[.string nm, .int .u8 k2, .int .i64 n2, .string s2, .slice a2 l2 c2])) rfl (facts_to hf 6 53 (by decide) (by kernel_rfl))
       have k54 : a.tmps.getD 54 undef = .pointer (some ⟨g6, x * 5, none⟩) := FQ_at (.val (.pointer (some ⟨g6, x * 5, none⟩))) rfl (facts_to hf 7 54 (by decide) (by kernel_rfl))
       obtain ⟨u47, f47⟩ := exV (a.tmps.getD 47 undef)
       obtain ⟨u48, f48⟩ := exV (a.tmps.getD 48 undef)
       obtain ⟨u49, f49⟩ := exV (a.tmps.getD 49 undef)
       obtain ⟨u50, f50⟩ := exV (a.tmps.getD 50 undef)
       obtain ⟨u51, f51⟩ := exV (a.tmps.getD 51 undef)
       obtain ⟨u52, f52⟩ := exV (a.tmps.getD 52 undef)
       have hE := slots_mergeP [false, false, false, false, false, false, false, false, false, false, false, false, false, false, false, false, false, false, false, false, false, false, false, false, false, false, false, false, false, false, false, false, false, false, false, false, false, false, false, false, false, false, false, false, false, false, false, true, true, true, true, true, true, true, true] 55 hs2 rfl (by kernel_rfl) ho2
       simp only [mergeFrom, Nat.zero_add, Nat.reduceAdd, k53, k54, f47, f48, f49, f50, f51, f52] at hE
       obtain ⟨TT, DD⟩ := a
       simp only at hE hd
       subst hd hE
       clear k53 k54 f47 f48 f49 f50 f51 f52 hf hs2 ho2
       have hOz := own_grown HOC.out hbz
       have HBZ := Hi hbz
       have HOZ := Hi hOz
       have hLl := hOz.1
       have m0 := hOz.cellAt (x * 5) (by omega)
       have m1 := hOz.cellAt (x * 5 + 1) (by omega)
       have m2 := hOz.cellAt (x * 5 + 2) (by omega)
       have m3 := hOz.cellAt (x * 5 + 3) (by omega)
       have m4 := hOz.cellAt (x * 5 + 4) (by omega)
       rw [List.getElem?_eq_getElem (by omega)] at m0 m1 m2 m3 m4
       have f0 := hOz.frozenAt (x * 5)
       have f1 := hOz.frozenAt (x * 5 + 1)
       have f2 := hOz.frozenAt (x * 5 + 2)
       have f3 := hOz.frozenAt (x * 5 + 3)
       have f4 := hOz.frozenAt (x * 5 + 4)
       clear hbz hOz
       simp only [List.drop_succ_cons, List.drop_zero]
       go_wp2
       go_ret
       have hbd : bindB b nm (.mk k2 n2 s2 us2) = some (insB b nm (.mk k2 n2 s2 us2)) := by unfold bindB; rw [HL1.out]
       unfold BindPost
       rw [hbd]
       have hOF := own_set5 (.string nm) (.int .u8 k2) (.int .i64 n2) (.string s2) (.slice a2 l2 c2) HOZ.out HA5.out HC5.out HK5.out
       obtain ⟨WF, hWF⟩ : ∃ WF, (((((wz.setCell ⟨g6, x * 5, none⟩ (.string nm)).setCell ⟨g6, x * 5 + 1, none⟩ (.int .u8 k2)).setCell ⟨g6, x * 5 + 2, none⟩ (.int .i64 n2)).setCell ⟨g6, x * 5 + 3, none⟩ (.string s2)).setCell ⟨g6, x * 5 + 4, none⟩ (.slice a2 l2 c2)) = WF := ⟨_, rfl⟩
       rw [hWF] at hOF ⊢
       have hFk : ∀ k, k ≠ g6 → WF.heap[k]? = wz.heap[k]? := fun k hk => by
         rw [← hWF]
         exact (Below.heap_setCell _ _ _ k (by simpa using hk)).trans ((Below.heap_setCell _ _ _ k (by simpa using hk)).trans ((Below.heap_setCell _ _ _ k (by simpa using hk)).trans ((Below.heap_setCell _ _ _ k (by simpa using hk)).trans (Below.heap_setCell _ _ _ k (by simpa using hk)))))
       have hFs : WF.heap.size = wz.heap.size := by rw [← hWF]; simp [World.setCell]
       have hFo : WF.os = wz.os ∧ WF.tape = wz.tape ∧ WF.output = wz.output := by rw [← hWF]; exact ⟨rfl, rfl, rfl⟩
       have hins := insB_length b nm (.mk k2 n2 s2 us2)
       have hown6 : ∀ q, (.slice (some ⟨g6, 0, none⟩) (b.length + 1) sc : Value).ownBlock = some q → q = g6 := fun q e => by simpa [Value.ownBlock] using e.symm
       refine ⟨rfl, .slice (some ⟨g6, 0, none⟩) (b.length + 1) sc, ?_, ⟨by rw [hins]; omega, _, ?_, Or.inr (by rw [hins]; exact hOF)⟩, ⟨hFo.1.trans (HBZ.out.os.trans HOS.out.1), hFo.2.1.trans (HBZ.out.tape.trans HOS.out.2.1), hFo.2.2.trans (HBZ.out.output.trans HOS.out.2.2), by rw [hFs]; exact Nat.le_trans HSZ.out HBZ.out.size, fun k hk h1 h2 => ?_⟩, fun q hq => ?_⟩
       · exact (hFk P (fun e => HG6P.out e.symm)).trans ((HBZ.out.block P HPCW.out).trans HPC9.out)
       · have hsp := HX2.out.split x
         unfold insB
         rw [HXX.out, List.append_assoc]
         refine hsp.1.append ?_
         exact ⟨_, _, _, _, _, rfl, hnm, by rw [← hl2]; exact HU.out, hsp.2⟩
       · have hkg : k ≠ g6 := fun e => by
           subst e
           rcases HG6O.out with h | h
           · exact h2 h
           · omega
         exact (hFk k hkg).trans ((HBZ.out.block k (Nat.lt_of_lt_of_le hk HSZ.out)).trans (HCH.out k hk h1 hkg h2))
       · rw [hown6 q hq.1]
         exact HG6O.out
end Go.Proofs.YtlmdhlckgbgfhaaGreatDoor
namespace Go.Proofs.YtlmdhlckgbgfhaaGreatDoor
open Go.RowKit

def killOk (ops : Array Oper) (n : Nat) (kl : Nat → Nat → Bool) : Bool := (List.range n).all fun i => match ops[i]? with
 | some o => o.after.all fun e => (List.range ops.size).all fun k => !(Region.binds .any e && kl e.on k) || k == i || waitsT ops ops.size k i
 | none => true
theorem killOk_spec {ops : Array Oper} {n : Nat} {kl : Nat → Nat → Bool} (h : killOk ops n kl = true) (i : Nat) (hin : i < n) (o : Oper) (ho : ops[i]? = some o) (e : _) (he : e ∈ o.after) (hb : Region.binds .any e = true) (k : Nat) (hk : k < ops.size) (hkl : kl e.on k = true) : k = i ∨ waitsT ops ops.size k i = true := by
 have h1 := List.all_eq_true.1 h i (List.mem_range.2 hin)
 simp only [ho, Array.all_eq_true_iff_forall_mem] at h1
 have h2 := List.all_eq_true.1 (h1 e he) k (List.mem_range.2 hk)
 simp only [hb, hkl, Bool.and_self, Bool.not_true, Bool.false_or, Bool.or_eq_true, beq_iff_eq] at h2
 exact h2
structure HeadInvK (ops : Array Oper) (n m b1 : Nat) (kl : Nat → Nat → Bool) (Φ : Facts) (a0 : Act) (w0 : World) (listed : Array Bool) (a : Act) (w : World) : Prop where
 below : Below b1 w0 w
 early : listed.getD m false = false → Below w0.heap.size w0 w
 defers : a.defers = a0.defers
 tmps : a.tmps.size = a0.tmps.size
 outer : ∀ t, noDstTo ops n t = true → a.tmps.getD t undef = a0.tmps.getD t undef
 facts : ∀ i o d, ops[i]? = some o → i < n → listed.getD i false = true → (∀ k, k < ops.size → kl i k = true → listed.getD k false = false) → o.dst = some d → Φ i (a.tmps.getD d undef) w
def SteppedK (ops : Array Oper) (m b1 : Nat) (kl : Nat → Nat → Bool) (Φ : Facts) (w0 : World) (i : Nat) (o : Oper) (a : Act) (w : World) (a' : Act) (w' : World) : Prop :=
 ∃ v, a' = a.put o.dst v ∧ Below (if i = m then b1 else w0.heap.size) w w' ∧ (∀ d, o.dst = some d → Φ i v w') ∧ ∀ j u, j ≠ i → kl j i = false → waitsT ops ops.size j i = false → Φ j u w → Φ j u w'
def StepToK (P : Program) (ops : Array Oper) (n m b1 : Nat) (kl : Nat → Nat → Bool) (Q : Exit → Act → World → Prop) (Φ : Facts) (a0 : Act) (w0 : World) (i : Nat) (o : Oper) : Prop :=
 ∀ a w, Below b1 w0 w → ((i = m ∨ waitsT ops ops.size m i = true) → Below w0.heap.size w0 w) → a.defers = a0.defers → a.tmps.size = a0.tmps.size →
   (∀ t, noDstTo ops n t = true → a.tmps.getD t undef = a0.tmps.getD t undef) →
   (∀ j oj d, waitsFor o j = true → ops[j]? = some oj → oj.dst = some d → Φ j (a.tmps.getD d undef) w) →
   Region.wanted o (yielded ops a.tmps) = true ∧ o.wp P a w (SteppedK ops m b1 kl Φ w0 i o a w) Q
theorem SteppedK.at {ops : Array Oper} {m b1 : Nat} {kl : Nat → Nat → Bool} {Φ : Facts} {w0 : World} {i : Nat} {o : Oper} {a : Act} {w w' : World} {v : Value} {tm : Array Value} {df : List Deferred} (hv : tm = (a.put o.dst v).tmps) (hf : a.defers = df) (him : i ≠ m) (h0 : w0.heap.size ≤ w.heap.size) (hb : Below w.heap.size w w') (hΦ : Φ i v w')
   (hst : ∀ i v w w', Φ i v w → Below w.heap.size w w' → Φ i v w') : SteppedK ops m b1 kl Φ w0 i o a w ⟨tm, df⟩ w' := by
 refine ⟨v, ?_, by rw [if_neg him]; exact hb.mono h0, fun _ _ => hΦ, fun j u _ _ _ h => hst j u w w' h hb⟩
 subst hv hf
 cases o.dst <;> rfl
theorem HeadInvK.put {ops : Array Oper} {n m b1 : Nat} {kl : Nat → Nat → Bool} {Φ : Facts} {a0 : Act} {w0 : World} (hb1 : b1 ≤ w0.heap.size) (hok : regionOk ops a0.tmps.size = true)
   {listed : Array Bool} {a : Act} {w : World} (hls : listed.size = ops.size) (hcl : ListedOk ops listed) (hJ : HeadInvK ops n m b1 kl Φ a0 w0 listed a w) {i : Nat} {o : Oper} (hin : i < n) (ho : ops[i]? = some o) (hil : listed.getD i false = false) {v : Value} {w' : World} (hb : Below (if i = m then b1 else w0.heap.size) w w') (hv : ∀ d, o.dst = some d → Φ i v w')
   (hk : ∀ j u, j ≠ i → kl j i = false → waitsT ops ops.size j i = false → Φ j u w → Φ j u w') :
   HeadInvK ops n m b1 kl Φ a0 w0 (listed.setIfInBounds i true) (a.put o.dst v) w' := by
 have hi := (gL ho)
 refine ⟨?_, ?_, ?_, ?_, ?_, ?_⟩
 · by_cases e : i = m
   · rw [if_pos e] at hb; exact hJ.below.trans hb
   · rw [if_neg e] at hb; exact hJ.below.trans (hb.mono hb1)
 · intro hm
   by_cases e : i = m
   · subst e
     simp [Array.getD_eq_getD_getElem?, hls, hi] at hm
   · rw [if_neg e] at hb
     rw [getD_set_ne (fun h => e h.symm)] at hm
     exact (hJ.early hm).trans hb
 · rw [← hJ.defers]; cases o.dst <;> rfl
 · rw [← hJ.tmps]; cases o.dst <;> simp [Act.put]
 · intro t ht
   rw [← hJ.outer t ht]
   cases hd : o.dst with
   | none => rfl
   | some d =>
     have hne : d ≠ t := fun e => noDstTo_spec ht i hin o ho (by rw [hd, e])
     simp [Act.put, Array.getD_eq_getD_getElem?, Array.getElem?_setIfInBounds_ne hne]
 · intro j oj d hoj hjn hlj hal hd
   by_cases hji : j = i
   · subst hji
     obtain rfl : oj = o := by rw [ho] at hoj; exact (Option.some.inj hoj).symm
     have hdn := ((regionOk_spec hok j oj ho).2 d hd).1
     rw [hd]
     have e : (a.put (some d) v).tmps.getD d undef = v := by
       have : d < a.tmps.size := by rw [hJ.tmps]; exact hdn
       simp [Act.put, Array.getD_eq_getD_getElem?, this]
     rw [e]
     exact hv d hd
   · have hlj' : listed.getD j false = true := by
       simpa [Array.getD_eq_getD_getElem?, Array.getElem?_setIfInBounds_ne (fun e => hji e.symm)] using hlj
     have hki : kl j i = false := by
       cases hq : kl j i with
       | false => rfl
       | true =>
         have := hal i hi hq
         simp [Array.getD_eq_getD_getElem?, hls, hi] at this
     have hwt : waitsT ops ops.size j i = false := by
       cases hq : waitsT ops ops.size j i with
       | false => rfl
       | true =>
         have := waits_listed hcl i ops.size j oj hoj (hcl j oj hoj hlj') hq
         rw [this] at hil; cases hil
     have hal' : ∀ k, k < ops.size → kl j k = true → listed.getD k false = false := by
       intro k hk' hq
       have h := hal k hk' hq
       by_cases e : k = i
       · rw [e]; exact hil
       · simpa [Array.getD_eq_getD_getElem?, Array.getElem?_setIfInBounds_ne (fun h => e h.symm)] using h
     have hf0 := hk j _ hji hki hwt (hJ.facts j oj d hoj hjn hlj' hal' hd)
     cases hd' : o.dst with
     | none => exact hf0
     | some d' =>
       have hne : d' ≠ d := by
         intro e
         subst e
         rcases Nat.lt_or_gt_of_ne hji with h | h
         · exact ((regionOk_spec hok i o ho).2 d' hd').2 j oj h hoj hd
         · exact ((regionOk_spec hok j oj hoj).2 d' hd).2 i o h ho hd'
       simpa [Act.put, Array.getD_eq_getD_getElem?, Array.getElem?_setIfInBounds_ne hne] using hf0

theorem wp_region_kill_tail {P : Program} {ops : Array Oper} {Q : Exit → Act → World → Prop} {id : Nat} {a0 : Act} {w0 : World} (hm : P.follows .mixedOrders = true) (n m b1 : Nat) (hb1 : b1 ≤ w0.heap.size) (hmn : m < n) (kl : Nat → Nat → Bool) (Φ : Facts)
   (hok : regionOk ops a0.tmps.size = true) (htl : tailOk ops n = true) (hko : killOk ops n kl = true)
   (step : ∀ i o, ops[i]? = some o → i < n → StepToK P ops n m b1 kl Q Φ a0 w0 i o)
   (tail : ∀ a w, Below b1 w0 w → a.defers = a0.defers → a.tmps.size = a0.tmps.size → (∀ t, noDstTo ops n t = true → a.tmps.getD t undef = a0.tmps.getD t undef) →
     (∀ i o d, ops[i]? = some o → i < n → (∀ k, k < n → kl i k = false) → o.dst = some d → Φ i (a.tmps.getD d undef) w) → wpList P ops Q (ops.toList.drop n) a w)
   (hkn : ∀ i k, n ≤ k → kl i k = false) : (Code.region id ops true).wp P Q a0 w0 := by
 have hlt := tailOk_lt htl
 have hcons : ∀ k o, ops[k]? = some o → ops.toList.drop k = o :: ops.toList.drop (k + 1) := by
   intro k o ho
   have hk := (gL ho)
   rw [List.drop_eq_getElem_cons (by simpa using hk)]
   congr 1
   have := (Array.getElem?_eq_some_iff.1 ho).2
   simpa using this
 refine wp_region_any hm (wpAny_inv hok (fun l a w => l.size = ops.size ∧ ListedOk ops l ∧ (((∀ j, n ≤ j → l.getD j false = false) ∧ HeadInvK ops n m b1 kl Φ a0 w0 l a w) ∨
   ∃ k, n < k ∧ (∀ j, j < k → j < ops.size → l.getD j false = true) ∧ (∀ j, k ≤ j → l.getD j false = false) ∧ wpList P ops Q (ops.toList.drop k) a w)) (fun _ _ _ h => h.1) ?_ ?_ ops.size _ a0 _ ⟨by simp, ?_, Or.inl ⟨?_, ?_⟩⟩ ?_)
 · rintro l a w i o ⟨hls, hcl, hJ⟩ hil ho hie
   have hi' : i < ops.size := (gL ho)
   have hil' : l.getD i false = false := by rw [← getD_true_false (by omega)]; exact hil
   have hcl' := hcl.set hls ho hie
   have hall : n ≤ i → ∀ j, j < i → l.getD j false = true := fun hni j hj => waits_listed hcl j ops.size i o ho hie (tailOk_spec htl i hi' hni j hj)
   rcases hJ with ⟨hun, hJ⟩ | ⟨k, hnk, hlk, huk, hwp⟩
   · by_cases hin : i < n
     · obtain ⟨hw, hwp⟩ := step i o ho hin a w hJ.below (fun hq => hJ.early (by
         rcases hq with rfl | hq
         · exact hil'
         · cases hlm : l.getD m false with
           | false => rfl
           | true =>
             have hms : m < ops.size := by omega
             obtain ⟨om, hom⟩ : ∃ o, ops[m]? = some o := ⟨ops[m], Array.getElem?_eq_getElem hms⟩
             have := waits_listed hcl i ops.size m om hom (hcl m om hom hlm) hq
             rw [this] at hil'; cases hil')) hJ.defers hJ.tmps hJ.outer (fun j oj d hwt hoj hd => by
         obtain ⟨e, he, hej, hb⟩ := waitsFor_spec hwt
         have hji : j < i := by rw [← hej]; exact (regionOk_spec hok i o ho).1 e he
         refine hJ.facts j oj d hoj (by omega) (hej ▸ hie e he hb) (fun k hk hq => ?_) hd
         rcases killOk_spec hko i hin o ho e he hb k hk (by rw [hej]; exact hq) with rfl | hwk
         · exact hil'
         · cases hlk : l.getD k false with
           | false => rfl
           | true =>
             obtain ⟨ok, hok'⟩ : ∃ o, ops[k]? = some o := ⟨ops[k], Array.getElem?_eq_getElem hk⟩
             have := waits_listed hcl i ops.size k ok hok' (hcl k ok hok' hlk) hwk
             rw [this] at hil'; cases hil')
       unfold wpOp
       simp only [ho, hw, if_true]
       refine Or.inl (Oper.wp_mono ?_ hwp)
       rintro a' w' ⟨v, rfl, hb, hv, hk⟩
       exact ⟨by simp [hls], hcl', Or.inl ⟨fun j hj => by rw [getD_set_ne (by omega)]; exact hun j hj, hJ.put hb1 hok hls hcl hin ho hil' hb hv hk⟩⟩
     · have hin' : i = n := by
         by_cases e : i = n
         · exact e
         · have h1 := hall (by omega) n (by omega)
           rw [hun n (Nat.le_refl _)] at h1; cases h1
       subst hin'
       have H := tail a w hJ.below hJ.defers hJ.tmps hJ.outer (fun j oj d hoj hj hal hd => hJ.facts j oj d hoj hj (hall (Nat.le_refl _) j hj) (fun k _ hq => by
         by_cases hkn' : k < i
         · rw [hal k hkn'] at hq; cases hq
         · rw [hkn j k (by omega)] at hq; cases hq) hd)
       rw [hcons i o ho] at H
       have H' : wpOp P ops Q i (wpList P ops Q (ops.toList.drop (i + 1))) a w := by
         unfold wpOp
         simp only [ho]
         exact H
       refine wpOp_mono ?_ H'
       intro a' w' hQ
       refine ⟨by simp [hls], hcl', Or.inr ⟨i + 1, by omega, fun j hj hjs => ?_, fun j hj => by rw [getD_set_ne (by omega)]; exact hun j (by omega), hQ⟩⟩
       by_cases e : j = i
       · subst e; simp [Array.getD_eq_getD_getElem?, hls, hi']
       · rw [getD_set_ne e]; exact hall (Nat.le_refl _) j (by omega)
   · have hik : i = k := by
       have h1 : k ≤ i := by
         by_cases e : k ≤ i
         · exact e
         · have := hlk i (by omega) hi'
           rw [hil'] at this; cases this
       by_cases e : i = k
       · exact e
       · have h2 := hall (by omega) k (by omega)
         rw [huk k (Nat.le_refl _)] at h2; cases h2
     subst hik
     rw [hcons i o ho] at hwp
     have H' : wpOp P ops Q i (wpList P ops Q (ops.toList.drop (i + 1))) a w := by
       unfold wpOp
       simp only [ho]
       exact hwp
     refine wpOp_mono ?_ H'
     intro a' w' hQ
     refine ⟨by simp [hls], hcl', Or.inr ⟨i + 1, by omega, fun j hj hjs => ?_, fun j hj => by rw [getD_set_ne (by omega)]; exact huk j (by omega), hQ⟩⟩
     by_cases e : j = i
     · subst e; simp [Array.getD_eq_getD_getElem?, hls, hi']
     · rw [getD_set_ne e]; exact hlk j (by omega) hjs
 · rintro a w ⟨_, _, ⟨hun, _⟩ | ⟨k, _, _, huk, hwp⟩⟩
   · have := hun n (Nat.le_refl _)
     simp [Array.getD_eq_getD_getElem?, hlt] at this
   · have hk : ops.size ≤ k := by
       by_cases e : ops.size ≤ k
       · exact e
       · have := huk k (Nat.le_refl _)
         simp [Array.getD_eq_getD_getElem?, show k < ops.size by omega] at this
     rw [List.drop_eq_nil_of_le (by simpa using hk)] at hwp
     exact hwp
 · intro i o ho hl
   have hi := (gL ho)
   simp [Array.getD_eq_getD_getElem?, hi] at hl
 · intro j _
   by_cases hj : j < ops.size <;> simp [Array.getD_eq_getD_getElem?, hj]
 · refine ⟨((Below.refl _ w0).drew).mono hb1, fun _ => (Below.refl _ w0).drew, rfl, rfl, fun _ _ => rfl, ?_⟩
   intro i o d ho _ hl _ _
   have hi := (gL ho)
   simp [Array.getD_eq_getD_getElem?, hi] at hl
 · exact Nat.le_trans (List.length_filter_le _ _) (by simp)
def StepsToK (P : Program) (ops : Array Oper) (n m b1 : Nat) (kl : Nat → Nat → Bool) (Q : Exit → Act → World → Prop) (Φ : Facts) (a0 : Act) (w0 : World) : Nat → List Oper → Prop
 | _, [] => True
 | i, o :: r => StepToK P ops n m b1 kl Q Φ a0 w0 i o ∧ StepsToK P ops n m b1 kl Q Φ a0 w0 (i + 1) r
theorem stepsToK_get {P : Program} {ops : Array Oper} {n m b1 : Nat} {kl : Nat → Nat → Bool} {Q : Exit → Act → World → Prop} {Φ : Facts} {a0 : Act} {w0 : World} : ∀ {l : List Oper} {k : Nat}, StepsToK P ops n m b1 kl Q Φ a0 w0 k l → ∀ i o, l[i]? = some o → StepToK P ops n m b1 kl Q Φ a0 w0 (k + i) o
 | [], _, _, i, o, h => by simp at h
 | x :: r, k, hs, i, o, h => by
   cases i with
   | zero => simp at h; subst h; exact hs.1
   | succ i =>
     have := stepsToK_get hs.2 i o (by simpa using h)
     rwa [show k + 1 + i = k + (i + 1) by omega] at this
theorem steps_toK {P : Program} {ops : Array Oper} {n m b1 : Nat} {kl : Nat → Nat → Bool} {Q : Exit → Act → World → Prop} {Φ : Facts} {a0 : Act} {w0 : World} (H : StepsToK P ops n m b1 kl Q Φ a0 w0 0 (ops.toList.take n)) : ∀ i o, ops[i]? = some o → i < n → StepToK P ops n m b1 kl Q Φ a0 w0 i o := by
 intro i o ho hi
 have := stepsToK_get H i o (by rw [List.getElem?_take_of_lt hi]; simpa using ho)
 rwa [Nat.zero_add] at this
theorem facts_toK {ops : Array Oper} {n : Nat} {kl : Nat → Nat → Bool} {Φ : Facts} {a : Act} {w : World} (hp : ∀ i o d, ops[i]? = some o → i < n → (∀ k, k < n → kl i k = false) → o.dst = some d → Φ i (a.tmps.getD d undef) w) (j d : Nat) (hj : j < n) (hk : ∀ k, k < n → kl j k = false) (h : dstAt ops j d = true) : Φ j (a.tmps.getD d undef) w := by
 obtain ⟨oj, h1, h2⟩ := dstAt_spec h
 exact hp j oj d h1 hj hk h2
end Go.Proofs.YtlmdhlckgbgfhaaGreatDoor
namespace Go.Proofs.YtlmdhlckgbgfhaaGreatDoor
open Go.RowKit Go.Shelf
attribute [local go_sem] Oper.semAt_some

abbrev Ops := List (Tm × Tm)
mutual
def fitT : Tm → Tm → Bd × Ops → Option (Bd × Ops)
 | .mk k n s us, v, st => if k = 3 then (bindB st.1 s v).map fun b => (b, st.2)
   else if k = 5 ∨ k = 6 then some (st.1, st.2 ++ [(.mk k n s us, v)])
   else if k = v.kind ∧ n = v.num ∧ s = v.name then fitL us v.args st else none
def fitL : List Tm → List Tm → Bd × Ops → Option (Bd × Ops)
 | [], [], st => some st
 | p :: ps, v :: vs, st => (fitT p v st).bind fun st' => fitL ps vs st'
 | [], _ :: _, _ => none
 | _ :: _, [], _ => none
end
theorem bind_srt {b b' : Bd} {n : ByteArray} {v : Tm} (hs : Srt b) (h : bindB b n v = some b') : Srt b' ∧ b'.length ≤ b.length + 1 := by
 unfold bindB at h
 split at h
 · split at h
   · cases h; exact ⟨hs, by omega⟩
   · cases h
 · rename_i hl
   cases h
   exact ⟨insB_srt hs hl, by rw [insB_length]; omega⟩
mutual
theorem fitT_srt : ∀ (p v : Tm) {b b' : Bd} {o o' : Ops}, Srt b → fitT p v (b, o) = some (b', o') → Srt b' ∧ b'.length ≤ b.length + p.count ∧ o'.length ≤ o.length + p.count
 | .mk k n s us, v, b, b', o, o', hs, h => by
   simp only [fitT] at h
   simp only [Tm.count]
   split at h
   · rw [Option.map_eq_some_iff] at h
     obtain ⟨c, hc, e⟩ := h
     cases e
     have := bind_srt hs hc
     exact ⟨this.1, by omega, by omega⟩
   · split at h
     · cases h
       exact ⟨hs, by omega, by simp⟩
     · split at h
       · have := fitL_srt us v.args hs h
         exact ⟨this.1, by omega, by omega⟩
       · cases h
theorem fitL_srt : ∀ (ps vs : List Tm) {b b' : Bd} {o o' : Ops}, Srt b → fitL ps vs (b, o) = some (b', o') → Srt b' ∧ b'.length ≤ b.length + Tm.countL ps ∧ o'.length ≤ o.length + Tm.countL ps
 | [], [], b, b', o, o', hs, h => by
   simp only [fitL, Option.some.injEq, Prod.mk.injEq] at h
   obtain ⟨rfl, rfl⟩ := h
   exact ⟨hs, by omega, by omega⟩
 | p :: ps, v :: vs, b, b', o, o', hs, h => by
   simp only [fitL, Option.bind_eq_some_iff] at h
   obtain ⟨⟨b1, o1⟩, h1, h2⟩ := h
   have q1 := fitT_srt p v hs h1
   have q2 := fitL_srt ps vs q1.1 h2
   simp only [Tm.countL]
   exact ⟨q2.1, by omega, by omega⟩
 | [], _ :: _, _, _, _, _, _, h => by simp [fitL] at h
 | _ :: _, [], _, _, _, _, _, h => by simp [fitL] at h
end
theorem fitL_take : ∀ {ps vs : List Tm} {j : Nat} (h1 : j < ps.length) (h2 : j < vs.length) (st : Bd × Ops), fitL (ps.take (j + 1)) (vs.take (j + 1)) st = (fitL (ps.take j) (vs.take j) st).bind fun st' => fitT ps[j] vs[j] st'
 | p :: ps, v :: vs, 0, _, _, st => by
   simp only [List.take_succ_cons, List.take_zero, fitL, List.getElem_cons_zero, Option.bind_some]
   cases fitT p v st <;> rfl
 | p :: ps, v :: vs, j + 1, h1, h2, st => by
   simp only [List.take_succ_cons, fitL, List.getElem_cons_succ, Option.bind_assoc]
   congr 1
   funext st'
   exact fitL_take (by simpa using h1) (by simpa using h2) st'
theorem fitL_gone : ∀ {ps vs : List Tm} (j : Nat) (st : Bd × Ops), fitL (ps.take j) (vs.take j) st = none → fitL ps vs st = none
 | _, _, 0, st, h => by simp [fitL] at h
 | [], [], j + 1, st, h => by simp [fitL] at h
 | [], _ :: _, _ + 1, _, _ => rfl
 | _ :: _, [], _ + 1, _, _ => rfl
 | p :: ps, v :: vs, j + 1, st, h => by
   simp only [List.take_succ_cons, fitL] at h ⊢
   cases hq : fitT p v st with
   | none => rfl
   | some st' =>
     rw [hq, Option.bind_some] at h
     rw [Option.bind_some]
     exact fitL_gone j st' h
theorem fitL_short : ∀ {ps vs : List Tm} (st : Bd × Ops), ps.length ≠ vs.length → fitL ps vs st = none
 | [], [], _, h => absurd rfl h
 | [], _ :: _, _, _ => rfl
 | _ :: _, [], _, _ => rfl
 | p :: ps, v :: vs, st, h => by
   simp only [fitL]
   cases fitT p v st with
   | none => rfl
   | some st' => exact fitL_short st' (by simpa using h)

theorem countL_at : ∀ {ps : List Tm} {j : Nat} (h : j < ps.length), Tm.countL (ps.take j) + ps[j].count ≤ Tm.countL ps
 | p :: ps, 0, _ => by simp only [List.take_zero, Tm.countL, List.getElem_cons_zero]; omega
 | p :: ps, j + 1, h => by
   have := countL_at (ps := ps) (j := j) (by simpa using h)
   simp only [List.take_succ_cons, Tm.countL, List.getElem_cons_succ]
   omega

def HoldO (w0 : World) : List Value → Ops → Prop
 | ys, [] => ys = []
 | ys, x :: r => ∃ c0 c1 c2 c3 e0 e1 e2 e3 zs, ys = c0 :: c1 :: c2 :: c3 :: e0 :: e1 :: e2 :: e3 :: zs ∧ IsTm w0.heap.size w0 c0 c1 c2 c3 x.1 ∧ IsTm w0.heap.size w0 e0 e1 e2 e3 x.2 ∧ HoldO w0 zs r
theorem HoldO.append {w0 : World} : ∀ {b c : Ops} {xs ys : List Value}, HoldO w0 xs b → HoldO w0 ys c → HoldO w0 (xs ++ ys) (b ++ c)
 | [], c, xs, ys, h, k => by rw [show xs = [] from h]; exact k
 | x :: r, c, xs, ys, ⟨c0, c1, c2, c3, e0, e1, e2, e3, zs, e, h1, h2, h⟩, k => ⟨c0, c1, c2, c3, e0, e1, e2, e3, zs ++ ys, by rw [e]; rfl, h1, h2, h.append k⟩
def OS (w0 : World) (base : Nat) (w : World) (O : Value) (op : Ops) : Prop := ∃ ys, HoldO w0 ys op ∧ w.ownsRow base 97 8 O op.length ys
def SI (w0 : World) (base : Nat) (w : World) (P : Nat) (b : Bd) (op : Ops) : Prop := ∃ V O, w.heap[P]? = some (.cells #[V, O] 94 (0, 0)) ∧ PS w0 base w V b ∧ OS w0 base w O op
theorem OS.grow {w0 w w' : World} {base : Nat} {O : Value} {op : Ops} (h : OS w0 base w O op) (hb : Below w.heap.size w w') : OS w0 base w' O op := by
 obtain ⟨ys, h1, h2⟩ := h
 exact ⟨ys, h1, own_grown h2 hb⟩
theorem SI.grow {w0 w w' : World} {base P : Nat} {b : Bd} {op : Ops} (h : SI w0 base w P b op) (hb : Below w.heap.size w w') : SI w0 base w' P b op := by
 obtain ⟨V, O, h1, h2, h3⟩ := h
 exact ⟨V, O, (hb.block P (gL h1)).trans h1, h2.grow hb, h3.grow hb⟩
theorem OS.keep {w0 w w' : World} {base P : Nat} {V O : Value} {op : Ops} (h : OS w0 base w O op) (hf : Fr base P V w w') (hP : ∀ q, O.ownBlock = some q → q ≠ P) : OS w0 base w' O op := by
 obtain ⟨ys, h1, h2⟩ := h
 refine ⟨ys, h1, h2.1, h2.2.imp id ?_⟩
 rintro ⟨g, cap, cur, rfl, q1, q2, q3⟩
 exact ⟨g, cap, cur, rfl, q1, (hf.block g (gL q2) (hP g rfl) (OwnP.not q2 (by decide))).trans q2, q3⟩
def FitPost (w0 : World) (base : Nat) (w : World) (P : Nat) (r : Option (Bd × Ops)) (e : Ending) (w' : World) : Prop := Below base w w' ∧ match r with
 | some st => e = .returned (.bool true) ∧ SI w0 base w' P st.1 st.2
 | none => e = .returned (.bool false)
def FitAt (w0 : World) (base P : Nat) (p : Tm) : Prop := ∀ (v : Tm) (b : Bd) (op : Ops) (c0 c1 c2 c3 d0 d1 d2 d3 : Value) (w : World), Below w0.heap.size w0 w → base ≤ w.heap.size → IsTm w0.heap.size w0 c0 c1 c2 c3 p → IsTm w0.heap.size w0 d0 d1 d2 d3 v → Srt b → SI w0 base w P b op →
 b.length + p.count < 100000 → op.length + p.count < 100000 → Calls Tryz.prog 96 #[.pointer (some ⟨P, 0, none⟩), .agg #[c0, c1, c2, c3], .agg #[d0, d1, d2, d3]] w (FitPost w0 base w P (fitT p v (b, op)))
theorem fitAll_of {w0 : World} {base P : Nat} (h00 : w0.heap.size ≤ base) (_ : base ≤ P) (ps : List Tm) (IH : ∀ p ∈ ps, FitAt w0 base P p) (vs : List Tm) (b : Bd) (op : Ops) (a a' : Option Addr) (capa capb : Nat) (w : World) (hB : Below w0.heap.size w0 w) (hbw : base ≤ w.heap.size)
   (ha : ps ≠ [] → ∃ g off, a = some ⟨g, off, none⟩ ∧ g < w0.heap.size ∧ IsTms w0.heap.size w0 g off ps) (ha' : vs ≠ [] → ∃ g off, a' = some ⟨g, off, none⟩ ∧ g < w0.heap.size ∧ IsTms w0.heap.size w0 g off vs) (_ : ps.length ≤ maxLen) (_ : vs.length ≤ maxLen)
   (hs : Srt b) (hSI : SI w0 base w P b op) (hcb : b.length + Tm.countL ps < 100000) (hco : op.length + Tm.countL ps < 100000) :
   Calls Tryz.prog 65 #[.pointer (some ⟨P, 0, none⟩), .slice a ps.length capa, .slice a' vs.length capb] w (FitPost w0 base w P (fitL ps vs (b, op))) := by
 have HIH := Hi IH
 have HA := Hi ha
 have HA' := Hi ha'
 have HB := Hi hB
 have HS := Hi hs
 have HSI := Hi hSI
 have hpl := len_countL ps
 clear IH ha ha' hB hs hSI
 go_enter Tryz.func65, Tryz.ntmps65
 by_cases hlen : ps.length = vs.length
 · have i0 : (ps.length : Int) = (vs.length : Int) := by omega
   have i0b : ((ps.length : Int) != (vs.length : Int)) = false := by simp [i0]
   go_wp2_with fail
   have HL := Hi hlen
   clear hlen i0 i0b
   go_loopw [16] (fun i wr => ∃ (j : Nat) (b1 : Bd) (o1 : Ops), j ≤ ps.length ∧ i = .int .i64 j ∧ fitL (ps.take j) (vs.take j) (b, op) = some (b1, o1) ∧ SI w0 base wr P b1 o1 ∧ Below base w wr) (fun i _ => ps.length - (intOf i).toNat)
   case atStart => exact ⟨0, b, op, Nat.zero_le _, rfl, rfl, HSI.out, Below.refl _ _⟩
   case round =>
     obtain ⟨j, b1, o1, hj, rfl, hft, hsi, hbl⟩ := hrel
     have HFT := Hi hft
     have HSJ := Hi hsi
     have HBL := Hi hbl
     clear hft hsi hbl
     have i1 : (0 : Int) ≤ (j : Int) := by omega
     by_cases hlt : j < ps.length
     · have hlt2 : j < vs.length := by have := HL.out; omega
       have i2 : (j : Int) < (ps.length : Int) := by omega
       have i3 : (j : Int) < (vs.length : Int) := by omega
       obtain ⟨g1, off1, rfl, hg1, hI1⟩ := HA.out (by intro e; rw [e] at hlt; simp at hlt)
       obtain ⟨g2, off2, rfl, hg2, hI2⟩ := HA'.out (by intro e; rw [e] at hlt2; simp at hlt2)
       obtain ⟨c0, c1, c2, c3, y0, y1, y2, y3, hT⟩ := hI1.at j hlt
       obtain ⟨e0, e1, e2, e3, x0, x1, x2, x3, hU⟩ := hI2.at j hlt2
       have hbr := HB.out.trans (HBL.out.mono h00)
       have t0 := (hbr.cell (p := ⟨g1, off1 + j * 4, none⟩) hg1).trans y0
       have t1 := (hbr.cell (p := ⟨g1, off1 + j * 4 + 1, none⟩) hg1).trans y1
       have t2 := (hbr.cell (p := ⟨g1, off1 + j * 4 + 2, none⟩) hg1).trans y2
       have t3 := (hbr.cell (p := ⟨g1, off1 + j * 4 + 3, none⟩) hg1).trans y3
       have s0 := (hbr.cell (p := ⟨g2, off2 + j * 4, none⟩) hg2).trans x0
       have s1 := (hbr.cell (p := ⟨g2, off2 + j * 4 + 1, none⟩) hg2).trans x1
       have s2' := (hbr.cell (p := ⟨g2, off2 + j * 4 + 2, none⟩) hg2).trans x2
       have s3' := (hbr.cell (p := ⟨g2, off2 + j * 4 + 3, none⟩) hg2).trans x3
       have hsr := fitL_srt _ _ HS.out HFT.out
       have hct := countL_at hlt
       have hnx := fitL_take hlt hlt2 (b, op)
       rw [HFT.out, Option.bind_some] at hnx
       have hih := HIH.out ps[j] (List.getElem_mem hlt)
       obtain ⟨pj, hpj⟩ : ∃ pj, ps[j] = pj := ⟨_, rfl⟩
       obtain ⟨vj, hvj⟩ : ∃ vj, vs[j] = vj := ⟨_, rfl⟩
       rw [hpj] at hT hih hct hnx
       rw [hvj] at hU hnx
       have hF0 : ∀ W, Below wr.heap.size wr W → Calls Tryz.prog 96 #[.pointer (some ⟨P, 0, none⟩), .agg #[c0, c1, c2, c3], .agg #[e0, e1, e2, e3]] W (FitPost w0 base W P (fitT pj vj (b1, o1))) := fun W hW =>
         hih vj b1 o1 c0 c1 c2 c3 e0 e1 e2 e3 W (hbr.trans (hW.mono hbr.size)) (Nat.le_trans hbw (Nat.le_trans HBL.out.size hW.size)) hT hU hsr.1 (HSJ.out.grow hW) (by omega) (by omega)
       obtain ⟨k2, n2, s2, us2⟩ := pj
       obtain ⟨k3, n3, s3, us3⟩ := vj
       simp only [IsTm] at hT hU
       obtain ⟨rfl, _, rfl, _, rfl, _, a2, c2, rfl, _, _⟩ := hT
       obtain ⟨rfl, _, rfl, _, rfl, _, a3, c3, rfl, _, _⟩ := hU
       obtain ⟨l2, hl2⟩ : ∃ l2, us2.length = l2 := ⟨_, rfl⟩
       obtain ⟨l3, hl3⟩ : ∃ l3, us3.length = l3 := ⟨_, rfl⟩
       rw [hl2] at t3 hF0
       rw [hl3] at s3' hF0
       have HF0 := Hi hF0
       have HNX := Hi hnx
       have hZ := And.intro s0 (And.intro s1 (And.intro s2' s3'))
       clear hI1 hI2 y0 y1 y2 y3 x0 x1 x2 x3 s0 s1 s2' s3' hih hpj hvj hF0 hnx hbr hct
       go_wp2_with fail
       obtain ⟨W1, hW1⟩ : ∃ W1, wr.alloc (.cells #[.int .u8 k2, .int .i64 n2, .string s2, .slice a2 l2 c2] 24) = W1 := ⟨_, rfl⟩
       obtain ⟨n1, hn1⟩ : ∃ n1, wr.heap.size = n1 := ⟨_, rfl⟩
       have hba : Below wr.heap.size wr W1 := by rw [← hW1]; exact bR.alloc (Nat.le_refl _) _
       have hQ : W1.heap[n1]? = some (.cells #[.int .u8 k2, .int .i64 n2, .string s2, .slice a2 l2 c2] 24 (0, 0)) := by rw [← hW1, ← hn1]; exact World.alloc_heap_new _ _
       have hg2r : g2 < wr.heap.size := by have := HB.out.size; have := HBL.out.size; omega
       have HQ := Hi hQ
       have HBA := Hi hba
       have HGW := Hi (Nat.lt_of_lt_of_le hg2r hba.size)
       have HZ := Hi (And.intro ((hba.cell (p := ⟨g2, off2 + j * 4, none⟩) hg2r).trans hZ.1) (And.intro ((hba.cell (p := ⟨g2, off2 + j * 4 + 1, none⟩) hg2r).trans hZ.2.1) (And.intro ((hba.cell (p := ⟨g2, off2 + j * 4 + 2, none⟩) hg2r).trans hZ.2.2.1) ((hba.cell (p := ⟨g2, off2 + j * 4 + 3, none⟩) hg2r).trans hZ.2.2.2))))
       rw [hW1, hn1]
       clear hW1 hQ hba hZ t0 t1 t2 t3
       refine wp_region_grow_tail (by kernel_rfl) 6 (FQ [.val (.pointer (some ⟨P, 0, none⟩)), .val (.agg #[.int .u8 k2, .int .i64 n2, .string s2, .slice a2 l2 c2]), .val (.slice (some ⟨g2, off2, none⟩) vs.length capb), .val (.int .i64 j), .val (.pointer (some ⟨g2, off2 + j * 4, none⟩)), .val (.agg #[.int .u8 k3, .int .i64 n3, .string s3, .slice a3 l3 c3])]) (FQ_grow _) (by kernel_rfl) (by kernel_rfl) (steps_to ?_) ?_
       · simp only [List.take_succ_cons, List.take_zero]
         refine ⟨?_, ?_, ?_, ?_, ?_, ?_, trivial⟩
         · intro a wx hb hd hs ho hp
           refine ⟨rfl, ?_⟩
           have h0 : a.tmps.getD 0 undef = .pointer (some ⟨P, 0, none⟩) := (ho 0 (by kernel_rfl)).trans rfl
           unfold Oper.wp
           go_simp
           refine Stepped.at (v := .pointer (some ⟨P, 0, none⟩)) ?_ ?_ bR ?_
           · first | rfl | simp
           · first | exact hd | rfl
           · exact FQ_mk (.val (.pointer (some ⟨P, 0, none⟩))) rfl rfl
         · intro a wx hb hd hs ho hp
           refine ⟨rfl, ?_⟩
           have h8 : a.tmps.getD 8 undef = .pointer (some ⟨n1, 0, none⟩) := (ho 8 (by kernel_rfl)).trans rfl
           have hx := (hb.block n1 (gL HQ.out)).trans HQ.out
           have x0 := cells_at hx 0 _ rfl
           have x1 := cells_at hx 1 _ rfl
           have x2 := cells_at hx 2 _ rfl
           have x3 := cells_at hx 3 _ rfl
           unfold Oper.wp
           go_simp
           refine Stepped.at (v := .agg #[.int .u8 k2, .int .i64 n2, .string s2, .slice a2 l2 c2]) ?_ ?_ bR ?_
           · first | rfl | simp
           · first | exact hd | rfl
           · exact FQ_mk (.val (.agg #[.int .u8 k2, .int .i64 n2, .string s2, .slice a2 l2 c2])) rfl rfl
         · intro a wx hb hd hs ho hp
           refine ⟨rfl, ?_⟩
           have h2 : a.tmps.getD 2 undef = .slice (some ⟨g2, off2, none⟩) vs.length capb := (ho 2 (by kernel_rfl)).trans rfl
           unfold Oper.wp
           go_simp
           refine Stepped.at (v := .slice (some ⟨g2, off2, none⟩) vs.length capb) ?_ ?_ bR ?_
           · first | rfl | simp
           · first | exact hd | rfl
           · exact FQ_mk (.val (.slice (some ⟨g2, off2, none⟩) vs.length capb)) rfl rfl
         · intro a wx hb hd hs ho hp
           refine ⟨rfl, ?_⟩
           have h7 : a.tmps.getD 7 undef = .int .i64 j := (ho 7 (by kernel_rfl)).trans rfl
           unfold Oper.wp
           go_simp
           refine Stepped.at (v := .int .i64 j) ?_ ?_ bR ?_
           · first | rfl | simp
           · first | exact hd | rfl
           · exact FQ_mk (.val (.int .i64 j)) rfl rfl
         · intro a wx hb hd hs ho hp
           refine ⟨rfl, ?_⟩
           have h23 : a.tmps.getD 23 undef = .slice (some ⟨g2, off2, none⟩) vs.length capb := qval_at hp 2 23 (by kernel_rfl) rfl
           have h24 : a.tmps.getD 24 undef = .int .i64 j := qval_at hp 3 24 (by kernel_rfl) rfl
           unfold Oper.wp
           go_simp
           refine Stepped.at (v := .pointer (some ⟨g2, off2 + j * 4, none⟩)) ?_ ?_ bR ?_
           · first | rfl | simp
           · first | exact hd | rfl
           · exact FQ_mk (.val (.pointer (some ⟨g2, off2 + j * 4, none⟩))) rfl rfl
         · intro a wx hb hd hs ho hp
           refine ⟨rfl, ?_⟩
           have h25 : a.tmps.getD 25 undef = .pointer (some ⟨g2, off2 + j * 4, none⟩) := qval_at hp 4 25 (by kernel_rfl) rfl
           have x0 := (hb.cell (p := ⟨g2, off2 + j * 4, none⟩) HGW.out).trans HZ.out.1
           have x1 := (hb.cell (p := ⟨g2, off2 + j * 4 + 1, none⟩) HGW.out).trans HZ.out.2.1
           have x2 := (hb.cell (p := ⟨g2, off2 + j * 4 + 2, none⟩) HGW.out).trans HZ.out.2.2.1
           have x3 := (hb.cell (p := ⟨g2, off2 + j * 4 + 3, none⟩) HGW.out).trans HZ.out.2.2.2
           unfold Oper.wp
           go_simp
           refine Stepped.at (v := .agg #[.int .u8 k3, .int .i64 n3, .string s3, .slice a3 l3 c3]) ?_ ?_ bR ?_
           · first | rfl | simp
           · first | exact hd | rfl
           · exact FQ_mk (.val (.agg #[.int .u8 k3, .int .i64 n3, .string s3, .slice a3 l3 c3])) rfl rfl
       · intro a wz hbz hd hs2 ho2 hf
         have k21 : a.tmps.getD 21 undef = .pointer (some ⟨P, 0, none⟩) := FQ_at (.val (.pointer (some ⟨P, 0, none⟩))) rfl (facts_to hf 0 21 (by decide) (by kernel_rfl))
         have k22 : a.tmps.getD 22 undef = .agg #[.int .u8 k2, .int .i64 n2, .string s2, .slice a2 l2 c2] := FQ_at (.val (.agg #[.int .u8 k2, .int .i64 n2, .string s2, .slice a2 l2 c2])) rfl (facts_to hf 1 22 (by decide) (by kernel_rfl))
         have k26 : a.tmps.getD 26 undef = .agg #[.int .u8 k3, .int .i64 n3, .string s3, .slice a3 l3 c3] := FQ_at (.val (.agg #[.int .u8 k3, .int .i64 n3, .string s3, .slice a3 l3 c3])) rfl (facts_to hf 5 26 (by decide) (by kernel_rfl))
         obtain ⟨u23, f23⟩ := exV (a.tmps.getD 23 undef)
         obtain ⟨u24, f24⟩ := exV (a.tmps.getD 24 undef)
         obtain ⟨u25, f25⟩ := exV (a.tmps.getD 25 undef)
         have hE := slots_mergeP [false, false, false, false, false, false, false, false, false, false, false, false, false, false, false, false, false, false, false, false, false, true, true, true, true, true, true, false, false, false] 30 hs2 rfl (by kernel_rfl) ho2
         simp only [mergeFrom, Nat.zero_add, Nat.reduceAdd, k21, k22, k26, f23, f24, f25] at hE
         obtain ⟨TT, DD⟩ := a
         simp only at hE hd
         subst hd hE
         clear k21 k22 k26 f23 f24 f25 hf hs2 ho2
         simp only [List.drop_succ_cons, List.drop_zero]
         have HBZ := Hi (HBA.out.trans (hbz.mono HBA.out.size))
         clear hbz
         cases hfit : fitT (.mk k2 n2 s2 us2) (.mk k3 n3 s3 us3) (b1, o1) with
         | none =>
           rw [hfit] at HF0 HNX
           have HN := Hi (fitL_gone (j + 1) (b, op) HNX.out)
           clear hfit
           go_wp2_with (go_at_call 96; refine (HF0.out _ HBZ.out).mono ?_; rintro e w5 ⟨hbb, rfl⟩)
           go_ret
           exact ⟨HBL.out.trans ((HBZ.out.mono (Nat.le_trans hbw HBL.out.size)).trans hbb), by rw [HN.out]; rfl⟩
         | some st =>
           obtain ⟨b2, o2⟩ := st
           rw [hfit] at HF0 HNX
           clear hfit
           go_wp2_with (go_at_call 96; refine (HF0.out _ HBZ.out).mono ?_; rintro e w5 ⟨hbb, rfl, hsi⟩)
           have HS5 := Hi hsi
           have HB5 := Hi (HBL.out.trans ((HBZ.out.mono (Nat.le_trans hbw HBL.out.size)).trans hbb))
           clear hsi hbb
           go_roundw
           case rel => exact ⟨j + 1, b2, o2, by omega, by go_num, HNX.out, HS5.out, HB5.out⟩
           case measure => simp [intOf]; omega
     · have i2 : ¬ (j : Int) < (ps.length : Int) := by omega
       have hje : j = ps.length := by omega
       have HN := Hi (show fitL ps vs (b, op) = some (b1, o1) by have := HFT.out; rwa [List.take_of_length_le (by omega), List.take_of_length_le (by have := HL.out; omega)] at this)
       have i3 : ¬ (j : Int) < (vs.length : Int) := by have := HL.out; omega
       clear hje
       go_wp2
       go_ret
       exact ⟨HBL.out, by rw [HN.out]; exact ⟨rfl, HSJ.out⟩⟩
 · have i0 : ¬ (ps.length : Int) = (vs.length : Int) := by omega
   have HN := Hi (fitL_short (b, op) hlen)
   clear hlen
   go_wp2
   go_ret
   exact ⟨Below.refl _ _, by rw [HN.out]; rfl⟩
end Go.Proofs.YtlmdhlckgbgfhaaGreatDoor
