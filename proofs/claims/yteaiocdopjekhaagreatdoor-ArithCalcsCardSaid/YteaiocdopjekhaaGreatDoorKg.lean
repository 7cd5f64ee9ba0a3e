/- 'ostlerlaw02.ArithCalcs', its card: whatever the string and the integers, the law returns true. -/
import Derived.Test.YteaiocdopjekhaaGreatDoorCards
import Derived.Test.YteaiocdopjekhaaGreatDoorTie
import Derived.Test.YteaiocdopjekhaaGreatDoorBc
import Derived.Test.YteaiocdopjekhaaGreatDoorAy
import Derived.Test.YteaiocdopjekhaaGreatDoorFa
namespace Go.Proofs.YteaiocdopjekhaaGreatDoor
open Go.ChangeShapes Go.WideShapes Go.ChangeAt Go.RowKit

theorem ints_none {H : Type} {enc : TypeId × Value → H} (W' : World) (bs : Nat) (sp : Nat → Bool) : DataW.Trod enc Tryz.prog W' bs sp true 22 (.slice none 0 0) .nil [] := ⟨1, by simp [DataW.trod, Value.cells, Tryz.underlying22]⟩

set_option maxRecDepth 100000 in
theorem calcs_contract (H : Type) (enc : TypeId × Value → H) (W : World) (base : Nat) (args : Array Value) (ds gs : List (DataW H)) (before : List MemPlace)
    (hval : ∀ (j : Nat) t v, Tryz.f3.params[j]? = some t → args[j]? = some v → Value.okWide Tryz.prog W .any base t v)
    (hW : DataW.Whole enc Tryz.prog Tryz.f3.params.toList Rows.arithCalcsSpec.vars false W args.toList ds gs before) :
    Calls Tryz.prog 3 args W fun e W' => ∃ v, e = .returned v ∧ Rows.arithCalcsSpec.post enc Tryz.prog Tryz.f3 false true false false W args v W' := by
  have hW' := hW
  obtain ⟨p, q, hA0, hV, rfl, hfz, hnd⟩ := hW
  have hA : DataW.TrodAll enc Tryz.prog W 0 (fun _ => true) true Tryz.f3.params.toList args.toList ds p := hA0
  rw [Tryz.params3] at hA hval
  obtain ⟨v0, vs0, d0, ds0, p0, q0, hargs, rfl, rfl, h0, r0⟩ := trodAll_cons hA
  obtain ⟨v1, vs1, d1, ds1, p1, q1, rfl, rfl, rfl, h1, r1⟩ := trodAll_cons r0
  obtain ⟨rfl, rfl, rfl⟩ := trodAll_nil r1
  obtain rfl : args = #[v0, v1] := by cases args; simp_all
  obtain ⟨rfl, rfl⟩ := trodVars_none hV
  obtain ⟨s0, rfl, rfl, rfl, hs0⟩ := Go.ChangeMaps.open_string Tryz.underlying9 (hval 0 9 v0 rfl rfl) h0
  clear hA0
  simp only [List.append_nil] at hW'
  obtain ⟨fuel, hf⟩ := h1
  obtain ⟨a0, l0, c0, rfl⟩ := okWide_slice Tryz.underlying22 (hval 1 22 v1 rfl rfl)
  have hc1 : Tryz.prog.cellsOf 3 = 1 := by kernel_rfl
  rcases Go.ChangeShapes.open_ints Tryz.underlying22 Tryz.underlying3 hc1 hf with ⟨hcs, hx⟩ | ⟨a, len, cap, zs, hcs, _, hle, hmax, hall, hx, hcell, hwf⟩
  · simp [Value.cells] at hcs
    obtain ⟨rfl, rfl, rfl⟩ := hcs
    simp only [Prod.mk.injEq] at hx
    obtain ⟨rfl, rfl⟩ := hx
    refine (calcs_any s0 hs0 [] (.slice none 0 0) W (Or.inl ⟨rfl, rfl⟩) awake_any).mono fun e W' ⟨he, hg⟩ => ?_
    subst he
    exact ⟨_, rfl, post_of_below (pa := []) (pv := []) hW' (fun _ _ _ => trodAll_cons_mk (shut_bool Tryz.underlying4 _) trodAll_mk0)
      (fun _ _ => trodAll_cons_mk (Go.ChangeMaps.shut_string Tryz.underlying9 hs0) (trodAll_cons_mk (ints_none _ _ _) trodAll_mk0)) (fun _ _ => rfl) rfl
      hg (ok_one (by kernel_rfl) rfl (okWide_bool_mk Tryz.underlying4 _))⟩
  · simp [Value.cells] at hcs
    obtain ⟨rfl, rfl, rfl⟩ := hcs
    simp only [Prod.mk.injEq] at hx
    obtain ⟨rfl, rfl⟩ := hx
    simp only [if_true] at hall
    simp only [List.nil_append] at hW'
    have hin : IntA W (.slice (some a) l0 c0) (zs.take l0) := by
      have htl : (zs.take l0).length = l0 := by rw [List.length_take]; omega
      refine Or.inr ⟨a, c0, by rw [htl], some a, c0, by rw [htl], by omega, fun hne => ?_⟩
      obtain ⟨b, off, rfl, hg⟩ := ints_at hcell (by
        rcases zs with _ | ⟨z, zs⟩
        · simp at hne
        · simp)
      refine ⟨b, off, rfl, ?_, fun i hi => ?_⟩
      · have h0 := hg 0 (by
          rcases zs with _ | ⟨z, zs⟩
          · simp at hne
          · simp)
        exact Go.block_lt_of_cell h0
      · have hi' : i < l0 := by omega
        have hiz : i < zs.length := by rw [List.length_take] at hi; omega
        have := hg i hiz
        rw [this, List.getD_eq_getElem?_getD, List.getElem?_eq_getElem hiz, List.getElem_take]; rfl
    refine (calcs_any s0 hs0 (zs.take l0) (.slice (some a) l0 c0) W hin awake_any).mono fun e W' ⟨he, hg⟩ => ?_
    subst he
    exact ⟨_, rfl, post_of_below (pa := MemPlace.row a zs.length) (pv := []) hW' (fun _ _ _ => trodAll_cons_mk (shut_bool Tryz.underlying4 _) trodAll_mk0)
      (fun sp hsp => by
        have h2 : DataW.Trod enc Tryz.prog W' 0 sp true 22 (.slice (some a) l0 c0) (.slice (Go.ChangeShapes.lits .i64 (zs.take l0)) (Go.ChangeShapes.lits .i64 (zs.drop l0))) (MemPlace.row a zs.length) := by
          refine ⟨0 + 2, Go.ChangeShapes.shut_ints 0 Tryz.underlying22 Tryz.underlying3 hc1 (Nat.zero_le _) hle hmax ?_ (fun i hi => ?_) hwf⟩
          · by_cases hz : zs.length = 0
            · split <;> omega
            · have hm : MemPlace.cell a.block (a.off + 0) ∈ MemPlace.row a zs.length := MemPlace.mem_row.2 ⟨0, by omega, rfl⟩
              have hs1 : sp a.block = true := hsp _ hm
              rw [hs1, if_pos rfl]; exact hall
          · rw [hg.cell (by rw [Go.ChangeShapes.block_add]; have := Go.block_lt_of_cell (hcell i hi); rwa [Go.ChangeShapes.block_add] at this)]
            exact hcell i hi
        have h3 := trodAll_cons_mk (Go.ChangeMaps.shut_string (enc := enc) (sp := sp) (w := W') (t := 9) Tryz.underlying9 hs0) (trodAll_cons_mk h2 trodAll_mk0)
        rw [List.append_nil, List.nil_append] at h3
        exact h3) (fun _ _ => rfl) (List.append_nil _).symm
      hg (ok_one (by kernel_rfl) rfl (okWide_bool_mk Tryz.underlying4 _))⟩

set_option maxRecDepth 100000 in
theorem calcs_laid (os : Os) : laidMet Tryz.prog Rows.arithCalcsRow.laid ((World.laidAll Tryz.prog os Rows.arithCalcsRow.laid).forCall (fun _ _ => 0) ⟨#[], #[.string ⟨#[]⟩, .slice none 0 0], []⟩).memory :=
  laidMet_laidAll _ (by kernel_rfl) (by kernel_rfl)
theorem calcs_reads (os : Os) {H : Type} (enc : TypeId × Value → H) : ∃ places, DataW.whole enc Tryz.prog ((World.laidAll Tryz.prog os Rows.arithCalcsRow.laid).forCall (fun _ _ => 0) ⟨#[], #[.string ⟨#[]⟩, .slice none 0 0], []⟩).memory Tryz.f3.params.toList Rows.arithCalcsSpec.vars false #[Value.string ⟨#[]⟩, .slice none 0 0].toList 8 = some ([.lit (.string []), .nil], [], places) :=
  ⟨[], by kernel_rfl⟩

set_option maxRecDepth 100000 in
theorem calcs_lifted (os : Os) (started : os.Started) (H : Type) (enc : TypeId × Value → H) (F : Stop.Interp) :
    ReturnsInHanded {} Tryz.checked os 3 .any ((OpenSpec.ofChange Rows.arithCalcsSpec).preRow enc Tryz.prog Tryz.f3 Rows.arithCalcsRow.domain false Rows.arithCalcsRow.laid) (((OpenSpec.ofChange Rows.arithCalcsSpec).at F).post enc Tryz.prog Tryz.f3 false true false false) := by
  obtain ⟨places, hx⟩ := calcs_reads os enc
  refine returnsInHanded_of_row (C := Tryz.checked) (s := OpenSpec.ofChange Rows.arithCalcsSpec) laid_own started (by kernel_rfl) Tryz.func3
    (witness_row_at (enc := enc) (C := Tryz.checked) false (World.laidAll Tryz.prog os Rows.arithCalcsRow.laid) #[.string ⟨#[]⟩, .slice none 0 0] (World.laidAll_os _ _ _) (by kernel_rfl) (by kernel_rfl) (by kernel_rfl)
      (OpenSpec.preRow_of_cond 8 hx (by kernel_rfl) (fun k hk => by cases hk) (by kernel_rfl) (by rw [MakeChecks.laidMetH_plain _ _ _ (by kernel_rfl)]; exact calcs_laid os))) ?_
  intro W base args ds gs before hval hW _ _ _ _ _ _
  exact calcs_contract H enc W base args ds gs before hval hW

theorem calcs_said : Rows.ArithCalcsSaid :=
  OpenClaim.holds_of_cond 3 Tryz.f3 rfl rfl rfl rfl rfl rfl rfl ⟨rfl, rfl, rfl, rfl, rfl⟩ rfl rfl rfl rfl rfl (by kernel_rfl) Tryz.func3 (by kernel_rfl)
    (of_decide_eq_true (by kernel_rfl)) (by unfold Func.isWrapper; first | (rw [if_pos (by decide +kernel)]; kernel_rfl) | (rw [if_neg (by decide +kernel)]; exact ⟨rfl, rfl⟩))
    (fun os started H enc _ F => by rw [OpenClaim.pre_eq_preRow]; exact calcs_lifted os started H enc F)

theorem calcs_plain (f : FuncId) (fn : Func) (hf : Tryz.pinned.checked.prog.funcNamed "ostler/ostlerlaw02.ArithCalcs" = some f) (hfn : Tryz.pinned.checked.prog.funcs[f]? = some fn) :
    false = Tryz.pinned.checked.prog.looks [] ∧ ∀ (j : Nat) t, fn.params[j]? = some t → Tryz.pinned.checked.prog.wantsStandIn t = false := by
  obtain rfl : f = 3 := Option.some.inj ((show Tryz.prog.funcNamed "ostler/ostlerlaw02.ArithCalcs" = some 3 by kernel_rfl).symm.trans hf) |>.symm
  obtain rfl : fn = Tryz.f3 := (Option.some.inj (Tryz.func3.symm.trans hfn)).symm
  refine ⟨by kernel_rfl, fun j t ht => ?_⟩
  rw [Tryz.params3] at ht
  have ht' : t = 9 ∨ t = 22 := by simpa using Array.mem_of_getElem? ht
  rcases ht' with rfl | rfl
  · exact (show Tryz.prog.wantsStandIn 9 = false by kernel_rfl)
  · exact (show Tryz.prog.wantsStandIn 22 = false by kernel_rfl)

/-- The card. -/
theorem calcs_card : Rows.ArithCalcsCardSaid :=
  Claim7.holds_tied_plain_at .later [] _ _ _ _ calcs_said (fun _ h => by cases h) (by kernel_rfl) (fun _ h => by cases h) arithCalcs_row_tie rfl ⟨rfl, rfl⟩ (by kernel_rfl) rfl calcs_plain (by kernel_rfl)
end Go.Proofs.YteaiocdopjekhaaGreatDoor
