/- LentInts and KeptInts: a slice lent with marks behind its end, and found as it was. -/
import Derived.Test.YteaiocdopjekhaaGreatDoorAc
import Derived.OwnWalk
import Derived.RangeFuncRecord
namespace Go.Proofs.YteaiocdopjekhaaGreatDoor
open Go.RowKit

def marks : List Int := (List.range 12).map fun (i : Nat) => 8000024 + (i : Int)
theorem marks_length : marks.length = 12 := rfl
theorem marks_at {i : Nat} (h : i < marks.length) : marks[i] = 8000024 + (i : Int) := by simp [marks]
theorem marks_take {j : Nat} (h : j < 12) : marks.take (j + 1) = marks.take j ++ [8000024 + (j : Int)] := by
  have h' : j < marks.length := by rw [marks_length]; exact h
  rw [List.take_succ_eq_append_getElem h', marks_at]

set_option maxHeartbeats 400000 in
theorem mark_any (i : Int) (h : 0 ≤ i ∧ i ≤ 1000) (w : World) : Calls Tryz.prog 31 #[.int .i64 1, .int .i64 i] w fun e w' => e = .returned (.int .i64 (8000024 + i)) ∧ w = w' := by
  have h1 : IntKind.i64.wrap (8000024 + i) = 8000024 + i := IntWalk.i64_in _ (by omega)
  have h2 : IntKind.i64.wrap (1 + 7) = 8 := rfl
  have h3 : IntKind.i64.wrap (1000003 * 8) = 8000024 := rfl
  clear h
  go_enter Tryz.func31, Tryz.ntmps31
  go_wp2
  go_ret
  exact ⟨rfl, rfl⟩

/-- An argument that is a slice of numbers: nil, or at an address. -/
def IntA (w : World) (v : Value) (l : List Int) : Prop := (v = .slice none 0 0 ∧ l = []) ∨ (∃ ad cap, v = .slice (some ad) l.length cap ∧ IntV w v l)
theorem IntA.intV {w : World} {v : Value} {l : List Int} (h : IntA w v l) : IntV w v l := by
  rcases h with ⟨rfl, rfl⟩ | ⟨_, _, _, h⟩
  · exact ⟨none, 0, rfl, Nat.zero_le _, fun h => absurd rfl h⟩
  · exact h

/-- What LentInts gives. -/
def Lent (w : World) (base : Nat) (l : List Int) (v : Value) : Prop := ∃ g cap cur, v = .slice (some ⟨g, 0, none⟩) l.length cap ∧ base ≤ g ∧ w.heap[g]? = some (.cells cur 3 (0, 0)) ∧
  l.length + 12 ≤ cap ∧ cap ≤ maxLen ∧ cur.size = cap ∧ cur.toList.take (l.length + 12) = (l ++ marks).map (Value.int .i64)
theorem Lent.grow {w w' : World} {base : Nat} {l : List Int} {v : Value} (h : Lent w base l v) (hb : Below w.heap.size w w') : Lent w' base l v := by
  obtain ⟨g, cap, cur, rfl, h1, h2, h3⟩ := h
  exact ⟨g, cap, cur, rfl, h1, (hb.block g (Array.getElem?_eq_some_iff.1 h2).1).trans h2, h3⟩
theorem Lent.cell {w : World} {base : Nat} {l : List Int} {g cap : Nat} (h : Lent w base l (.slice (some ⟨g, 0, none⟩) l.length cap)) (i : Nat) (hi : i < (l ++ marks).length) : w.cell? ⟨g, i, none⟩ = some (.int .i64 (l ++ marks)[i]) := by
  obtain ⟨g', cap', cur, e, h1, h2, h3, h4, h5, h6⟩ := h
  simp only [Value.slice.injEq, Option.some.injEq, Addr.mk.injEq, and_true, true_and] at e
  obtain ⟨rfl, rfl⟩ := e
  rw [cell_of_row w g i cur 3 (0, 0) h2]
  have h7 : cur.toList[i]? = some (.int .i64 (l ++ marks)[i]) := by
    have h8 : (cur.toList.take (l.length + 12))[i]? = some (.int .i64 (l ++ marks)[i]) := by rw [h6, List.getElem?_map, List.getElem?_eq_getElem hi]; rfl
    rwa [List.getElem?_take_of_lt (by rw [List.length_append, marks_length] at hi; exact hi)] at h8
  simpa using h7
theorem Lent.intV {w : World} {base : Nat} {l : List Int} {v : Value} (h : Lent w base l v) : IntV w v l := by
  have h0 := h
  obtain ⟨g, cap, cur, rfl, h1, h2, h3, h4, h5, h6⟩ := h
  refine ⟨_, cap, rfl, by omega, fun _ => ⟨g, 0, rfl, (Array.getElem?_eq_some_iff.1 h2).1, fun i hi => ?_⟩⟩
  have := h0.cell i (by rw [List.length_append]; omega)
  rw [List.getElem_append_left hi] at this
  rw [Nat.zero_add]; exact this

theorem info_int12 : (Tryz.prog.info? 3).map (fun i => (i.zero, i.size, i.bytes)) = some (some (.int .i64 0), 1, 8) := by kernel_rfl

/-- Numbers that an argument holds are appended to a row of the call's own. -/
theorem wpList_append_ints {ops : Array Oper} {rest : List Oper} {o : Oper} {a : Act} {Q : Exit → Act → World → Prop} {w : World} (hgd : o.guard = none) (s x : Operand)
    (ho : o.op = .call { callee := .builtin .append, args := #[s, x], argTypes := #[22, 22] }) (base : Nat) (v : Value) (n : Nat) (xs : List Value) (hs : a.eval s = v) (hown : w.ownsRow base 3 1 v n xs)
    (u : Value) (hu : a.eval x = u) (l : List Int) (hx : IntA w u l) (hl : n + l.length ≤ 1000000) (hbase : base ≤ w.heap.size)
    (h : ∀ v' w', w'.ownsRow base 3 1 v' (n + l.length) (xs ++ l.map (Value.int .i64)) → w.grownBy w' v.ownBlock → (v' = .slice none 0 0 → v = .slice none 0 0) → wpList Tryz.prog ops Q rest (a.put o.dst v') w') : wpList Tryz.prog ops Q (o :: rest) a w := by
  obtain ⟨i0, hi, hz0, hz1, hz2⟩ := info_parts info_int12
  rcases hx with ⟨rfl, rfl⟩ | ⟨ad, cap, rfl, hI⟩
  · refine wpList_plain hgd fun K hK => ?_
    have hr := run_append_owned_none (P := Tryz.prog) (w := w) base 22 o.type 3 i0 1 Tryz.underlying22 hi v n xs hown
    unfold Oper.wp execOp
    simp only [ho, resolve, invoke, builtin, Sem.run_bind, Sem.run_pure, Result.andThen_ok, List.map_toArray, List.map_cons, List.map_nil, hs, hu, hr]
    exact hK _ _ (h v w (by simpa using hown) ⟨rfl, rfl, rfl, Nat.le_refl _, fun _ _ _ => rfl⟩ id)
  · refine wpList_append_own w hgd s x 22 ho base 3 i0 _ 1 8 Tryz.underlying22 hi hz0 hz1 hz2 rfl (by decide) v n xs hs hown ad l.length cap (l.map (Value.int .i64)) hu (by simp) ?_ ?_ (by unfold maxLen; omega) (by omega) hbase
      (fun v' w' h2 h3 h4 => h v' w' h2 h3 fun e => (h4.1 e).1)
    · intro j u hj
      obtain ⟨_, _, e, _, hr⟩ := hI
      simp only [Value.slice.injEq, true_and] at e
      obtain ⟨rfl, -⟩ := e
      simp only [List.getElem?_map, Option.map_eq_some_iff] at hj
      obtain ⟨z, hz, rfl⟩ := hj
      have hjl : j < l.length := (List.getElem?_eq_some_iff.1 hz).1
      obtain ⟨b, off, e2, _, hc⟩ := hr (by intro e; rw [e] at hjl; simp at hjl)
      obtain rfl := Option.some.inj e2
      have hadd : (⟨b, off, none⟩ : Addr).add j = ⟨b, off + j, none⟩ := by unfold Addr.add; split <;> simp_all
      rw [hadd, hc j hjl, (List.getElem?_eq_some_iff.1 hz).2]
    · intro u hu
      obtain ⟨z, _, rfl⟩ := List.mem_map.1 hu
      simp [Value.oneCell']

theorem own_lent {w : World} {base : Nat} {l : List Int} {v : Value} (h : w.ownsRow base 3 1 v (l.length + 12) ((l ++ marks).map (Value.int .i64))) :
    ∃ g cap, v = .slice (some ⟨g, 0, none⟩) (l.length + 12) cap ∧ l.length + 12 ≤ cap ∧ Lent w base l (.slice (some ⟨g, 0, none⟩) l.length cap) := by
  obtain ⟨_, ⟨rfl, hn⟩ | ⟨g, cap, cur, rfl, h1, h2, h3, h4, h5, h6⟩⟩ := h
  · omega
  · rw [Nat.mul_one] at h5 h6
    exact ⟨g, cap, rfl, h3, g, cap, cur, rfl, h1, h2, h3, h4, h5, h6⟩

set_option maxRecDepth 100000 in
set_option maxHeartbeats 4000000 in
theorem lent_any (l : List Int) (hl : l.length ≤ 4) (v : Value) (w : World) (hv : IntA w v l) :
    Calls Tryz.prog 9 #[v] w fun e w' => ∃ x, e = .returned x ∧ Lent w' w.heap.size l x ∧ Below w.heap.size w w' := by
  obtain ⟨i0, hi, hz0, hz1, hz2⟩ := info_parts info_int12
  obtain ⟨a, cap, rfl, _, _⟩ := hv.intV
  have HV := Lib.hid hv
  have HM := Lib.hid (fun j => @marks_take j)
  clear hv
  go_enter Tryz.func9, Tryz.ntmps9
  have w1 : IntKind.i64.wrap ((l.length : Int) + 12) = (l.length : Int) + 12 := IntWalk.i64_in _ (by omega)
  go_wp2_with (refine wpList_make_own _ rfl _ _ 22 rfl w.heap.size 3 i0 _ 1 Tryz.underlying22 hi hz0 hz1 .i64 .i64 _ (l.length + 12) rfl rfl (by omega) ?c1 ?c2 (Nat.le_refl _) ?_)
  case c1 => rw [hz2]; omega
  case c2 => unfold maxLen; omega
  intro W1 hown1 hg1
  have HO1 := Lib.hid hown1
  have HB1 := Lib.hid ((Below.refl _ w).grown hg1 (Nat.le_refl _) (fun k e => by cases e))
  clear hown1 hg1
  have HV1 := Lib.hid (show IntA W1 (.slice a l.length cap) l from by
    rcases HV.out with h | ⟨ad, cp, e, h⟩
    · exact Or.inl h
    · exact Or.inr ⟨ad, cp, e, h.grow HB1.out⟩)
  clear HV
  go_wp2_with (at_builtin; refine wpList_append_ints rfl _ _ rfl w.heap.size _ _ _ rfl HO1.out _ rfl l HV1.out ?c1 ?c2 ?_)
  case c1 => omega
  case c2 => exact HB1.out.size
  intro v2 W2 hown2 hg2 hn2
  have HO2 := Lib.hid (show W2.ownsRow w.heap.size 3 1 v2 l.length (l.map (Value.int .i64)) by simpa using hown2)
  have HB2 := Lib.hid (HB1.out.grown hg2 HB1.out.size (fun k e => (HO1.out.lt k e).1))
  clear hown2 hg2 hn2 HO1 HB1 HV1
  go_wp2
  go_loopw [3, 4] (fun v i wr => ∃ j : Nat, j ≤ 12 ∧ i = .int .i64 j ∧ wr.ownsRow w.heap.size 3 1 v (l.length + j) ((l ++ marks.take j).map (Value.int .i64)) ∧ Below w.heap.size w wr) (fun _ i _ => 12 - (intOf i).toNat)
  case atStart => exact ⟨0, by omega, by go_num, by simpa using HO2.out, HB2.out⟩
  case round =>
    obtain ⟨j, hj, rfl, hO, hB⟩ := hrel
    have HO := Lib.hid hO
    have HB := Lib.hid hB
    clear hO hB
    by_cases hlt : j < 12
    · have HK := Lib.hid (fun w => mark_any (j : Int) (by omega) w)
      have i1 : (j : Int) < 12 := by omega
      have hBA : Below wr.heap.size wr (wr.alloc (.cells #[.int .i64 (8000024 + (j : Int))] 3)) := (Below.refl _ _).alloc (Nat.le_refl _) _
      have HBA := Lib.hid hBA
      clear hBA
      go_wp2_with (first | (go_at_call 31; refine (HK.out _).mono ?_; rintro e w' ⟨rfl, rfl⟩) | (at_builtin; go_loud (refine wpList_append_own _ rfl _ _ 22 rfl w.heap.size 3 i0 _ 1 8 Tryz.underlying22 hi hz0 hz1 hz2 rfl (by decide) _ _ _ rfl (own_grown HO.out HBA.out) ⟨wr.heap.size, 0, none⟩ 1 1 [.int .i64 (8000024 + (j : Int))] rfl rfl ?c1 ?c2 ?c3 ?c4 ?c5 ?_)))
      case c1 =>
        intro jj u hu
        rcases jj with _ | jj
        · cases hu
          exact cells_at (World.alloc_heap_new wr (.cells #[.int .i64 (8000024 + (j : Int))] 3)) 0 _ rfl
        · simp at hu
      case c2 => simp [Value.oneCell']
      case c3 => unfold maxLen; omega
      case c4 => omega
      case c5 => have := HB.out.size; have := HBA.out.size; omega
      intro v' w3 hown hg _
      have HOn := Lib.hid hown
      have HBn := Lib.hid ((HB.out.trans (HBA.out.mono HB.out.size)).grown hg (by have := HB.out.size; have := HBA.out.size; omega) (fun k e => (HO.out.lt k e).1))
      clear hown hg
      go_wp2
      go_roundw
      case rel => exact ⟨j + 1, by omega, by go_num, by rw [HM.out j hlt]; simpa [Nat.add_assoc] using HOn.out, HBn.out⟩
      case measure => simp [intOf]; omega
    · obtain rfl : j = 12 := by omega
      obtain ⟨g, cp, rfl, hle, hL⟩ := own_lent (show wr.ownsRow w.heap.size 3 1 _ (l.length + 12) ((l ++ marks).map (Value.int .i64)) from HO.out)
      have HL := Lib.hid hL
      clear hL
      have hle2 : l.length ≤ cp := by omega
      go_wp2
      go_ret
      exact ⟨_, rfl, HL.out, HB.out⟩
end Go.Proofs.YteaiocdopjekhaaGreatDoor
