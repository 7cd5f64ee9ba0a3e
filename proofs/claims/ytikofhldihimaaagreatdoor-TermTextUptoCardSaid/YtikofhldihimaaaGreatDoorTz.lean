/- The law of texts: its mathematics. -/
import Derived.Test.YtikofhldihimaaaGreatDoorTl
import Derived.Test.YtikofhldihimaaaGreatDoorHp
import Derived.Test.YtikofhldihimaaaGreatDoorOr
namespace Go.Proofs.YtikofhldihimaaaGreatDoor
open Go.RowKit

theorem str_valid {t : Tm} (h : t.validB = true) : t.str = ⟨t.text.toArray⟩ := by
  show (if t.validB then _ else _) = _
  rw [if_pos h]
theorem str_invalid {t : Tm} (h : t.validB = false) : t.str = ⟨#[]⟩ := by
  show (if t.validB then _ else _) = _
  rw [h]; rfl
theorem ba_inj {x y : List UInt8} (h : (⟨x.toArray⟩ : ByteArray) = ⟨y.toArray⟩) : x = y := by
  injection h with h
  exact congrArg Array.toList h
theorem str_ne {t : Tm} (h : t.validB = true) : t.str ≠ ⟨#[]⟩ := by
  rw [str_valid h]
  intro e
  exact text_nonempty h (ba_inj (y := []) e)
theorem str_iff {a b : Tm} (ha : a.validB = true) (hb : b.validB = true) : a.str = b.str ↔ a = b := by
  constructor
  · intro e
    rw [str_valid ha, str_valid hb] at e
    exact text_inj ha hb (ba_inj e)
  · intro e; rw [e]

theorem wt_pos (t : Tm) : 1 ≤ t.wt := by cases t; simp only [Tm.wt]; omega
mutual
theorem depth_wt : ∀ t : Tm, t.depth ≤ t.wt
  | .mk k n s us => by
    have := depthL_wt us
    simp only [Tm.depth, Tm.wt]; omega
theorem depthL_wt : ∀ us : List Tm, Tm.depthL us ≤ Tm.wtL us
  | [] => by simp [Tm.depthL]
  | t :: ts => by
    have h1 := depth_wt t
    have h2 := depthL_wt ts
    simp only [Tm.depthL, Tm.wtL]; omega
end

def tF (a b : Tm) : Tm := tFun ⟨#[102]⟩ [a, b]
def tM (a b : Tm) : Tm := tOp ⟨#[45]⟩ [a, b]
mutual
theorem nodes_up (l m : Nat) (hm : m ≤ l) : ∀ t : Tm, (t.nodes l).all nodeOkB = true → (t.nodes m).all nodeOkB = true
  | .mk k n s us, h => by
    simp only [Tm.nodes, List.all_cons, Bool.and_eq_true, nodeOkB, decide_eq_true_eq] at h ⊢
    exact ⟨⟨by omega, h.1.2⟩, nodesL_up (l + 1) (m + 1) (by omega) us h.2⟩
theorem nodesL_up (l m : Nat) (hm : m ≤ l) : ∀ ts : List Tm, (Tm.nodesL l ts).all nodeOkB = true → (Tm.nodesL m ts).all nodeOkB = true
  | [], _ => rfl
  | t :: ts, h => by
    simp only [Tm.nodesL, List.all_append, Bool.and_eq_true] at h ⊢
    exact ⟨nodes_up l m hm t h.1, nodesL_up l m hm ts h.2⟩
end
theorem fm_valid {a b : Tm} : (tF a b).validB = true → a.validB = true ∧ b.validB = true ∧ (tM a b).validB = true ∧ (tM b a).validB = true := by
  intro h
  unfold Tm.validB tF tFun at h
  simp only [Tm.nodes, Tm.nodesL, List.all_cons, List.append_nil, List.all_append, Bool.and_eq_true] at h
  obtain ⟨h0, h1, h2⟩ := h
  refine ⟨nodes_up 2 1 (by omega) a h1, nodes_up 2 1 (by omega) b h2, ?_, ?_⟩
  · unfold Tm.validB tM tOp
    simp only [Tm.nodes, Tm.nodesL, List.all_cons, List.append_nil, List.all_append, Bool.and_eq_true]
    exact ⟨by show (decide ((1 : Nat) ≤ 12) && reqB 5 0 ⟨#[45]⟩ 2) = true; decide +kernel, h1, h2⟩
  · unfold Tm.validB tM tOp
    simp only [Tm.nodes, Tm.nodesL, List.all_cons, List.append_nil, List.all_append, Bool.and_eq_true]
    exact ⟨by show (decide ((1 : Nat) ≤ 12) && reqB 5 0 ⟨#[45]⟩ 2) = true; decide +kernel, h2, h1⟩
theorem f_str {a b : Tm} (h : (tF a b).validB = true) : (tF a b).str = (⟨#[102, 40]⟩ : ByteArray) ++ a.str ++ ⟨#[44]⟩ ++ b.str ++ ⟨#[41]⟩ := by
  obtain ⟨ha, hb, _, _⟩ := fm_valid h
  rw [str_valid h, str_valid ha, str_valid hb]
  have e : (tF a b).text = [102] ++ (40 :: (a.text ++ (44 :: (b.text ++ [])))) ++ [41] := by
    unfold tF tFun
    simp only [Tm.text, Tm.textF]
    simp
  rw [e]
  apply ByteArray.ext
  simp [ByteArray.data_append]
theorem m_iff {a b : Tm} (h : (tF a b).validB = true) : (tM a b).str = (tM b a).str ↔ a = b := by
  obtain ⟨_, _, h1, h2⟩ := fm_valid h
  rw [str_iff h1 h2]
  constructor
  · intro e
    unfold tM tOp at e
    injection e with _ _ _ e
    injection e
  · intro e; rw [e]
theorem f_wt (a b : Tm) : (tF a b).wt = 2 + a.wt + b.wt := by
  unfold tF tFun
  simp only [Tm.wt, Tm.wtL, show (⟨#[102]⟩ : ByteArray).size = 1 from rfl]; omega
theorem m_wt (a b : Tm) : (tM a b).wt = 2 + a.wt + b.wt := by
  unfold tM tOp
  simp only [Tm.wt, Tm.wtL, show (⟨#[45]⟩ : ByteArray).size = 1 from rfl]; omega
end Go.Proofs.YtikofhldihimaaaGreatDoor
