/- Package match: Bind. -/
import Derived.Test.YtaacmdjaaeacfaaGreatDoorWk
namespace Go.Proofs.YtaacmdjaaeacfaaGreatDoor
open Go.RowKit Go.Shelf
attribute [local go_sem] Oper.semAt_some

def bindM (b : Bd) (nm : ByteArray) (v : Tm) : Option Bd := if validBd b && (variableB nm && v.valueB) then bindB b nm v else none
set_option maxRecDepth 100000 in
set_option maxHeartbeats 40000000 in
theorem mBind_any (b : Bd) (nm : ByteArray) (v : Tm) (d0 d1 d2 d3 bv : Value) (w : World) (hb : BdV w bv b) (hv : IsTm w.heap.size w d0 d1 d2 d3 v) (hlb : b.length ≤ 40000) (hcb : ∀ x ∈ b, x.2.count ≤ 1000000) (hsb : ∀ x ∈ b, x.1.size ≤ maxLen) (hnm : nm.size ≤ maxLen) (hcv : v.count ≤ 1000000) :
    Calls Tryz.prog 26 #[bv, .string nm, .agg #[d0, d1, d2, d3]] w (MatchPost (bindM b nm v) w) := by
  have HTV := Lib.hid hv
  have hdv : v.depth < 4611686018427387900 := by have := Tm.depth_le_count v; omega
  obtain ⟨VV, hVV⟩ : ∃ VV, v.valueB = VV := ⟨_, rfl⟩
  obtain ⟨VN, hVN⟩ : ∃ VN, variableB nm = VN := ⟨_, rfl⟩
  obtain ⟨VB, hVB⟩ : ∃ VB, validBd b = VB := ⟨_, rfl⟩
  have HBM := Lib.hid (show bindM b nm v = if VB && (VN && VV) then bindB b nm v else none by unfold bindM; rw [hVV, hVN, hVB])
  have HVN := Lib.hid (fun (W : World) => show Calls Tryz.prog 27 #[.string nm] W fun e w'' => e = .returned (.bool VN) ∧ W = w'' from hVN ▸ variable_any nm W hnm)
  have HVL := Lib.hid (fun (b' : Bd) (h : bindB b nm v = some b') => bind_vals hcb hcv h)
  obtain ⟨k3, n3, s3, us3⟩ := v
  have hv0 := hv
  simp only [IsTm] at hv
  obtain ⟨rfl, _, rfl, _, rfl, _, a3, c3, rfl, _, _⟩ := hv
  obtain ⟨l3, hl3⟩ : ∃ l3, us3.length = l3 := ⟨_, rfl⟩
  rw [hl3] at HTV hv0 ⊢
  obtain ⟨W0, hW0⟩ : ∃ W0, w.alloc (.cells #[.int .u8 k3, .int .i64 n3, .string s3, .slice a3 l3 c3] 24) = W0 := ⟨_, rfl⟩
  have hb0 : Below w.heap.size w W0 := by rw [← hW0]; exact (Below.refl _ w).alloc (Nat.le_refl _) _
  have HQ0 := Lib.hid (show W0.heap[w.heap.size]? = some (.cells #[.int .u8 k3, .int .i64 n3, .string s3, .slice a3 l3 c3] 24 (0, 0)) by rw [← hW0]; exact World.alloc_heap_new _ _)
  have HVA := Lib.hid (fun (W : World) (hW : Below W0.heap.size W0 W) => show Calls Tryz.prog 13 #[.agg #[.int .u8 k3, .int .i64 n3, .string s3, .slice a3 l3 c3]] W fun e w'' => e = .returned (.bool VV) ∧ Below W.heap.size W w'' from hVV ▸ value_any (.mk k3 n3 s3 us3) _ _ _ _ W ((hv0.below (hb0.trans (hW.mono hb0.size))).mono (Nat.le_trans hb0.size hW.size)) hdv)
  have HBA := Lib.hid (fun (P : Nat) (V : Value) (W : World) (h1 : Below W0.heap.size W0 W) (h2 : Srt b) (h3 : PS W0 W0.heap.size W V b) (h4 : W.heap[P]? = some (.cells #[V] 74 (0, 0))) (h5 : W0.heap.size ≤ P) => bind_any (Nat.le_refl _) h1 h1.size b h2 V h3 (by omega) P 0 #[V] 74 h4 rfl h5 (by decide) nm hnm (.mk k3 n3 s3 us3) _ _ _ _ ((hv0.below hb0).mono hb0.size))
  have hvp := validPairs_any b bv W0 (hb.grow hb0) (fun x hx => by have := hcb x hx; have := Tm.depth_le_count x.2; omega) hsb
  rw [hVB] at hvp
  have HV := Lib.hid hvp
  have HB0 := Lib.hid hb0
  have HSP := Lib.hid (fun h : VB = true => And.intro (valid_spec (hVB.trans h)).1 (show prs b = b by unfold prs; rw [if_pos (hVB.trans h)]))
  obtain ⟨va, vn, vc, rfl⟩ : ∃ va vn vc, bv = .slice va vn vc := by obtain ⟨a, c, e, _⟩ := hb; exact ⟨_, _, _, e⟩
  clear hb hcb hsb hvp hb0 hl3 hv0 hVV hVN hVB hdv hcv hnm
  go_enter Tryz.func26, Tryz.ntmps26
  cases VB with
  | false =>
    go_wp2_with (go_at_call 38; refine HV.out.mono ?_; rintro e w1 ⟨aV, rfl, _, hb1⟩; have HB1 := Lib.hid (HB0.out.trans (hb1.mono HB0.out.size)); clear hb1)
    go_ret2
    exact ⟨HB1.out.alloc HB1.out.size _, by rw [HBM.out]; rfl⟩
  | true =>
  have hsp := HSP.out rfl
  rw [hsp.2] at HV
  have HSRT := Lib.hid hsp.1
  obtain ⟨lb, hlb2⟩ : ∃ lb, b.length = lb := ⟨_, rfl⟩
  rw [hlb2] at HV
  have HLB := Lib.hid hlb2
  clear hsp HSP hlb2
  go_wp2_with (go_at_call 38; refine HV.out.mono ?_; rintro e w1 ⟨aV, rfl, hbd, hb1⟩; have HBD := Lib.hid hbd; have HB1 := Lib.hid hb1; clear hbd hb1)
  obtain ⟨W5, hW5⟩ : ∃ W5, w1.alloc (.cells #[.slice aV lb lb] 74) = W5 := ⟨_, rfl⟩
  obtain ⟨P, hP⟩ : ∃ P, w1.heap.size = P := ⟨_, rfl⟩
  have hb5 : Below W0.heap.size W0 W5 := by rw [← hW5]; exact HB1.out.alloc HB1.out.size _
  have hq5 : W5.heap[P]? = some (.cells #[.slice aV lb lb] 74 (0, 0)) := by rw [← hW5, ← hP]; exact World.alloc_heap_new _ _
  have hbP : W0.heap.size ≤ P := by rw [← hP]; exact HB1.out.size
  rw [hW5, hP]
  have hx5 := (hb5.block w.heap.size (gL HQ0.out)).trans HQ0.out
  have HQ5 := Lib.hid hq5
  have HX5 := Lib.hid hx5
  have HB5 := Lib.hid hb5
  have HPS := Lib.hid (fun (W : World) => show PS W0 W0.heap.size W (.slice aV lb lb) b by
    have hll := HLB.out
    have h1 := HBD.out
    subst hll
    exact PS.lent (by omega) h1)
  have x0 := cells_at hx5 0 _ rfl
  have x1 := cells_at hx5 1 _ rfl
  have x2 := cells_at hx5 2 _ rfl
  have x3 := cells_at hx5 3 _ rfl
  clear hW5 hP hb5 hq5 hx5
  cases VN with
  | false =>
    go_wp2_with (go_at_call 27; refine (HVN.out _).mono ?_; rintro e w2 ⟨rfl, rfl⟩)
    go_ret2
    exact ⟨HB0.out.trans (HB5.out.mono HB0.out.size), by rw [HBM.out]; rfl⟩
  | true =>
  cases VV with
  | false =>
    go_wp2_with (first | (go_at_call 27; refine (HVN.out _).mono ?_; rintro e w2 ⟨rfl, rfl⟩) | (go_at_call 13; refine (HVA.out _ HB5.out).mono ?_; rintro e w3 ⟨rfl, hb3⟩; have HB3 := Lib.hid (HB5.out.trans (hb3.mono HB5.out.size)); clear hb3))
    go_ret2
    exact ⟨HB0.out.trans (HB3.out.mono HB0.out.size), by rw [HBM.out]; rfl⟩
  | true =>
  cases hbd : bindB b nm (.mk k3 n3 s3 us3) with
  | none =>
    have HN := Lib.hid hbd
    clear hbd
    go_wp2_with (first | (go_at_call 27; refine (HVN.out _).mono ?_; rintro e w2 ⟨rfl, rfl⟩) | (go_at_call 13; refine (HVA.out _ HB5.out).mono ?_; clear HVA; rintro e w3 ⟨rfl, hb3⟩; have hx3 := (hb3.block w.heap.size (gL HX5.out)).trans HX5.out; have z0 := cells_at hx3 0 _ rfl; have z1 := cells_at hx3 1 _ rfl; have z2 := cells_at hx3 2 _ rfl; have z3 := cells_at hx3 3 _ rfl; have HP3 := Lib.hid ((hb3.block P (gL HQ5.out)).trans HQ5.out); have HB3 := Lib.hid (HB5.out.trans (hb3.mono HB5.out.size)); clear hb3 hx3) | (go_at_call 48; refine (HBA.out P _ _ HB3.out HSRT.out (HPS.out _) HP3.out hbP).mono ?_; intro e w6 hpost; unfold BindPost at hpost; rw [HN.out] at hpost; obtain ⟨rfl, hfr⟩ := hpost; have HB6 := Lib.hid (HB3.out.trans (hfr.below hbP (Nat.le_refl _) HB3.out.size)); clear hfr))
    go_ret2
    exact ⟨HB0.out.trans (HB6.out.mono HB0.out.size), by rw [HBM.out, HN.out]; rfl⟩
  | some b' =>
    have HN := Lib.hid hbd
    clear hbd
    go_wp2_with (first | (go_at_call 27; refine (HVN.out _).mono ?_; rintro e w2 ⟨rfl, rfl⟩) | (go_at_call 13; refine (HVA.out _ HB5.out).mono ?_; clear HVA; rintro e w3 ⟨rfl, hb3⟩; have hx3 := (hb3.block w.heap.size (gL HX5.out)).trans HX5.out; have z0 := cells_at hx3 0 _ rfl; have z1 := cells_at hx3 1 _ rfl; have z2 := cells_at hx3 2 _ rfl; have z3 := cells_at hx3 3 _ rfl; have HP3 := Lib.hid ((hb3.block P (gL HQ5.out)).trans HQ5.out); have HB3 := Lib.hid (HB5.out.trans (hb3.mono HB5.out.size)); clear hb3 hx3) | (go_at_call 48; refine (HBA.out P _ _ HB3.out HSRT.out (HPS.out _) HP3.out hbP).mono ?_; intro e w6 hpost; unfold BindPost at hpost; rw [HN.out] at hpost; obtain ⟨rfl, V', hp6, hps6, hfr, _⟩ := hpost; have HB6 := Lib.hid (HB3.out.trans (hfr.below hbP (Nat.le_refl _) HB3.out.size)); have p0 := cells_at hp6 0 V' rfl; have HBV := Lib.hid (hps6.bdV HB6.out); clear hfr hp6 hps6) | (go_at_call 49; refine (binding_any b' (by have := (bind_srt HSRT.out HN.out).2; omega) (HVL.out b' HN.out) _ _ HBV.out).mono ?_; rintro e w8 ⟨v8, rfl, hr8, hb8⟩; have HR8 := Lib.hid hr8.bdV; have HB8 := Lib.hid (HB6.out.trans (hb8.mono HB6.out.size)); clear hr8 hb8))
    go_ret2
    exact ⟨HB0.out.trans (HB8.out.mono HB0.out.size), by rw [HBM.out, HN.out]; exact ⟨_, rfl, HR8.out⟩⟩
end Go.Proofs.YtaacmdjaaeacfaaGreatDoor
