/- 'ostlerlaw07.MatchOrder', its card: whatever the arguments, of bulk at most 1048576 together, the law returns true. -/
import Derived.Test.YtlmdhlckgbgfhaaGreatDoorCards
import Derived.Test.YtlmdhlckgbgfhaaGreatDoorTie
import Derived.Test.YtlmdhlckgbgfhaaGreatDoorZQg
import Derived.Test.YtlmdhlckgbgfhaaGreatDoorZm
import Derived.Test.YtlmdhlckgbgfhaaGreatDoorZQh
import Derived.Test.YtlmdhlckgbgfhaaGreatDoorZn
set_option maxRecDepth 100000
set_option maxHeartbeats 400000000
namespace Go.Proofs.YtlmdhlckgbgfhaaGreatDoor
open Go.ChangeShapes Go.WideShapes Go.ChangeAt Go.RowKit

theorem matchOrder_contract (H : Type) (enc : TypeId × Value → H) (W : World) (base : Nat) (args : Array Value) (ds gs : List (DataW H)) (before : List MemPlace)
   (hval : ∀ (j : Nat) t v, Tryz.f4.params[j]? = some t → args[j]? = some v → Value.okWide Tryz.prog W .any base t v)
   (hW : DataW.Whole enc Tryz.prog Tryz.f4.params.toList Rows.matchOrderSpec.vars false W args.toList ds gs before) (hk : Rows.uptoBulkAll (ds ++ gs) ≤ 1048576) :
   Calls Tryz.prog 4 args W fun e W' => ∃ v, e = .returned v ∧ Rows.matchOrderSpec.post enc Tryz.prog Tryz.f4 false true false false W args v W' := by
 have hW' := hW
 obtain ⟨p, q, hA0, hV, rfl, hfz, hnd⟩ := hW
 have hA : DataW.TrodAll enc Tryz.prog W 0 (fun _ => true) true Tryz.f4.params.toList args.toList ds p := hA0
 rw [Tryz.params4] at hA hval
 obtain ⟨v0, vs0, d0, ds0, p0, q0, hargs, rfl, rfl, h0, r0⟩ := trodAll_cons hA
 obtain ⟨v1, vs1, d1, ds1, p1, q1, rfl, rfl, rfl, h1, r1⟩ := trodAll_cons r0
 obtain ⟨v2, vs2, d2, ds2, p2, q2, rfl, rfl, rfl, h2, r2⟩ := trodAll_cons r1
 obtain ⟨v3, vs3, d3, ds3, p3, q3, rfl, rfl, rfl, h3, r3⟩ := trodAll_cons r2
 obtain ⟨rfl, rfl, rfl⟩ := trodAll_nil r3
 obtain rfl : args = #[v0, v1, v2, v3] := by cases args; simp_all
 obtain ⟨rfl, rfl⟩ := trodVars_none hV
 obtain ⟨s0, a0, u0, c0, rfl, w0, g0, m0, i0, ku0⟩ := open_atomw (hval 0 47 v0 rfl rfl) h0
 obtain ⟨s1, a1, u1, c1, rfl, w1, g1, m1, i1, ku1⟩ := open_atomw (hval 1 47 v1 rfl rfl) h1
 obtain ⟨b2, i2⟩ := open_bd (hval 2 26 v2 rfl rfl) h2
 obtain ⟨n3, rfl, rfl, rfl, w3⟩ := open_int Tryz.underlying3 (hval 3 3 v3 rfl rfl) h3
 clear hA0
 simp only [List.append_nil, Rows.uptoBulkAll] at hk
 refine (order_walk s0 s1 u0 u1 b2 n3 a0 a1 c0 c1 _ W i0 i1 i2 (by omega) (by omega) g0 g1).mono fun e W' ⟨he, hg⟩ => ?_
 subst he
 refine ⟨_, rfl, post_of_below (pa := p0 ++ (p1 ++ (p2 ++ ([] ++ [])))) (pv := []) hW' (fun _ _ _ => trodAll_cons_mk (shut_bool Tryz.underlying4 _) trodAll_mk0) (fun sp hsp => ?_) (fun _ _ => rfl) rfl
   hg (ok_one (by kernel_rfl) rfl (okWide_bool_mk Tryz.underlying4 _))⟩
 rw [Tryz.params4]
 exact trodAll_cons_mk (shut_atom h0 hg fun p hp => hsp p (by simp [hp])) (trodAll_cons_mk (shut_atom h1 hg fun p hp => hsp p (by simp [hp])) (trodAll_cons_mk (shut_bd h2 hg fun p hp => hsp p (by simp [hp])) (trodAll_cons_mk (shut_int Tryz.underlying3 w3) trodAll_mk0)))

theorem matchOrder_laid (os : Os) : laidMet Tryz.prog Rows.matchOrderUptoRow.laid ((World.laidAll Tryz.prog os Rows.matchOrderUptoRow.laid).forCall (fun _ _ => 0) ⟨#[], #[.agg #[.string ⟨#[]⟩, .slice none 0 0], .agg #[.string ⟨#[]⟩, .slice none 0 0], .slice none 0 0, .int .i64 0], []⟩).memory :=
 laidMet_laidAll _ (by kernel_rfl) (by kernel_rfl)
theorem matchOrder_reads (os : Os) {H : Type} (enc : TypeId × Value → H) : ∃ places, DataW.whole enc Tryz.prog ((World.laidAll Tryz.prog os Rows.matchOrderUptoRow.laid).forCall (fun _ _ => 0) ⟨#[], #[.agg #[.string ⟨#[]⟩, .slice none 0 0], .agg #[.string ⟨#[]⟩, .slice none 0 0], .slice none 0 0, .int .i64 0], []⟩).memory Tryz.f4.params.toList Rows.matchOrderSpec.vars false #[Value.agg #[.string ⟨#[]⟩, .slice none 0 0], .agg #[.string ⟨#[]⟩, .slice none 0 0], .slice none 0 0, .int .i64 0].toList 8 = some ([.agg [.lit (.string []), .nil], .agg [.lit (.string []), .nil], .nil, .lit (.int .i64 0)], [], places) :=
 ⟨[], by kernel_rfl⟩

theorem matchOrder_lifted (os : Os) (started : os.Started) (H : Type) (enc : TypeId × Value → H) (F : Stop.Interp) :
   ReturnsInHanded {} Tryz.checked os 4 .any ((Rows.OpenSpec.upto Rows.matchOrderSpec).preRow enc Tryz.prog Tryz.f4 Rows.matchOrderUptoRow.domain false Rows.matchOrderUptoRow.laid) (((Rows.OpenSpec.upto Rows.matchOrderSpec).at F).post enc Tryz.prog Tryz.f4 false true false false) := by
 obtain ⟨places, hx⟩ := matchOrder_reads os enc
 refine returnsInHanded_of_row (C := Tryz.checked) (s := Rows.OpenSpec.upto Rows.matchOrderSpec) laid_own started (by kernel_rfl) Tryz.func4
   (witness_row_at (enc := enc) (C := Tryz.checked) false (World.laidAll Tryz.prog os Rows.matchOrderUptoRow.laid) #[.agg #[.string ⟨#[]⟩, .slice none 0 0], .agg #[.string ⟨#[]⟩, .slice none 0 0], .slice none 0 0, .int .i64 0] (World.laidAll_os _ _ _) (by kernel_rfl) (by kernel_rfl) (by kernel_rfl)
     (OpenSpec.preRow_of_cond 8 hx (by kernel_rfl) (fun k hk => by cases hk; kernel_rfl) (by kernel_rfl) (by rw [MakeChecks.laidMetH_plain _ _ _ (by kernel_rfl)]; exact matchOrder_laid os))) ?_
 intro W base args ds gs before hval hW _ hcond _ _ _ _
 have hk : Rows.uptoBulkAll (ds ++ gs) ≤ 1048576 := of_decide_eq_true (hcond _ rfl)
 exact matchOrder_contract H enc W base args ds gs before hval hW hk

theorem matchOrder_said : Rows.MatchOrderUptoSaid :=
 OpenClaim.holds_of_cond 4 Tryz.f4 rfl rfl rfl rfl rfl rfl rfl ⟨rfl, rfl, rfl, rfl, rfl⟩ rfl rfl rfl rfl rfl (by kernel_rfl) Tryz.func4 (by kernel_rfl)
   (of_decide_eq_true (by kernel_rfl)) (by unfold Func.isWrapper; first | (rw [if_pos (by decide +kernel)]; kernel_rfl) | (rw [if_neg (by decide +kernel)]; exact ⟨rfl, rfl⟩))
   (fun os started H enc _ F => by rw [OpenClaim.pre_eq_preRow]; exact matchOrder_lifted os started H enc F)

theorem matchOrder_plain (f : FuncId) (fn : Func) (hf : Tryz.pinned.checked.prog.funcNamed "ostler/ostlerlaw07.MatchOrder" = some f) (hfn : Tryz.pinned.checked.prog.funcs[f]? = some fn) :
   false = Tryz.pinned.checked.prog.looks [] ∧ ∀ (j : Nat) t, fn.params[j]? = some t → Tryz.pinned.checked.prog.wantsStandIn t = false := by
 obtain rfl : f = 4 := Option.some.inj ((show Tryz.prog.funcNamed "ostler/ostlerlaw07.MatchOrder" = some 4 by kernel_rfl).symm.trans hf) |>.symm
 obtain rfl : fn = Tryz.f4 := (Option.some.inj (Tryz.func4.symm.trans hfn)).symm
 refine ⟨by kernel_rfl, fun j t ht => ?_⟩
 rw [Tryz.params4] at ht
 have hm : t = 47 ∨ t = 26 ∨ t = 3 := by
   have := Array.mem_of_getElem? ht
   simp at this
   omega
 rcases hm with rfl | rfl | rfl
 · exact (show Tryz.prog.wantsStandIn 47 = false by kernel_rfl)
 · exact (show Tryz.prog.wantsStandIn 26 = false by kernel_rfl)
 · exact (show Tryz.prog.wantsStandIn 3 = false by kernel_rfl)

theorem matchOrder_card : Rows.MatchOrderUptoCardSaid :=
 Claim7.holds_tied_plain_at .later [] _ _ _ _ matchOrder_said (fun _ h => by cases h) (by kernel_rfl) (fun _ h => by cases h) matchOrderUpto_row_tie rfl ⟨rfl, rfl⟩ (by kernel_rfl) rfl matchOrder_plain (by kernel_rfl)
end Go.Proofs.YtlmdhlckgbgfhaaGreatDoor
