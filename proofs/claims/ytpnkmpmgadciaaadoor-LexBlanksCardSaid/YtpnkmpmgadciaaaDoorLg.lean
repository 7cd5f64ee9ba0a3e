/- Tokens with blanks and comments laid between: plain mathematics. -/
import Derived.Test.YtpnkmpmgadciaaaDoorLb
namespace Go.Proofs.YtpnkmpmgadciaaaDoor
open Go.RowKit

/-- The six fillings. -/
def fills : List (List UInt8) := [[32], [10], [9, 32], [37, 10], [32, 37, 32, 97, 46, 32, 35, 120, 10], [13, 10]]
def fillN (g : Nat) : List UInt8 := fills.getD g []
theorem fill_sk {g : Nat} (hg : g < 6) (z : List UInt8) : sk false (fillN g ++ z) = sk false z := by
  have hs : ∀ (c : UInt8) (r : List UInt8), inB 1 c.toNat = true → sk false (c :: r) = sk false r := fun c r h => by (conv => lhs; unfold sk); rw [if_pos h]
  have hp : ∀ (r : List UInt8), sk false (37 :: r) = sk true r := fun r => by (conv => lhs; unfold sk); rw [if_neg (by decide +kernel), if_pos (by decide +kernel)]
  have hc : ∀ (c : UInt8) (r : List UInt8), nlB c.toNat = true → sk true (c :: r) = sk true r := fun c r h => by (conv => lhs; unfold sk); rw [if_pos h]
  have hn : ∀ (r : List UInt8), sk true (10 :: r) = sk false r := fun r => by (conv => lhs; unfold sk); rw [if_neg (by decide +kernel)]
  rcases g with _ | _ | _ | _ | _ | _ | g
  · exact hs 32 z (by decide +kernel)
  · exact hs 10 z (by decide +kernel)
  · show sk false (9 :: 32 :: z) = _
    rw [hs 9 _ (by decide +kernel), hs 32 _ (by decide +kernel)]
  · show sk false (37 :: 10 :: z) = _
    rw [hp, hn]
  · show sk false (32 :: 37 :: 32 :: 97 :: 46 :: 32 :: 35 :: 120 :: 10 :: z) = _
    rw [hs 32 _ (by decide +kernel), hp, hc 32 _ (by decide +kernel), hc 97 _ (by decide +kernel), hc 46 _ (by decide +kernel), hc 32 _ (by decide +kernel), hc 35 _ (by decide +kernel), hc 120 _ (by decide +kernel), hn]
  · show sk false (13 :: 10 :: z) = _
    rw [hs 13 _ (by decide +kernel), hs 10 _ (by decide +kernel)]
  · omega
theorem fill_ends {g : Nat} (hg : g < 6) (z : List UInt8) : Ends (fillN g ++ z) := by
  rcases g with _ | _ | _ | _ | _ | _ | g
  · exact .inr ⟨32, _, rfl, .inr (.inl rfl)⟩
  · exact .inr ⟨10, _, rfl, .inl rfl⟩
  · exact .inr ⟨9, _, rfl, .inr (.inr (.inl rfl))⟩
  · exact .inr ⟨37, _, rfl, .inr (.inr (.inr (.inr rfl)))⟩
  · exact .inr ⟨32, _, rfl, .inr (.inl rfl)⟩
  · exact .inr ⟨13, _, rfl, .inr (.inr (.inr (.inl rfl)))⟩
  · omega
theorem fill_le {g : Nat} (hg : g < 6) : (fillN g).length ≤ 9 := by
  rcases g with _ | _ | _ | _ | _ | _ | g <;> first | decide | omega
/-- A filling ahead only moves the offsets. -/
theorem lexL_fill {g : Nat} (hg : g < 6) (f : Nat) (r : List UInt8) (a : Nat) (h : r.length < f) : lexL f (fillN g ++ r) a = lexL f r (a + (fillN g).length) := by
  cases f with
  | zero => omega
  | succ f =>
    unfold lexL
    rw [fill_sk hg]
    cases hsk : sk false r with
    | nil => rfl
    | cons c q =>
      have hs := (sk_suffix r false).length_le
      rw [hsk] at hs
      simp only []
      have e2 : a + ((fillN g ++ r).length - (c :: q).length) = a + (fillN g).length + (r.length - (c :: q).length) := by
        rw [List.length_append]; omega
      rw [e2]

/-- Each token behind its filling; gs: the fillings' numbers. -/
def gapT : List Tk → List Nat → List UInt8
  | x :: r, g :: gs => fillN g ++ (x.t.data.toList ++ gapT r gs)
  | _, _ => []
def endT : List UInt8 := [32, 37, 32, 116, 104, 101, 32, 101, 110, 100]
def gapA : Nat → List Tk → List Nat → List Tk
  | a, x :: r, g :: gs => ⟨x.k, x.t, a + (fillN g).length, 0⟩ :: gapA (a + (fillN g).length + x.t.data.toList.length) r gs
  | _, _, _ => []
theorem endT_sk : sk false endT = [] := by decide +kernel
theorem lexL_end (f a : Nat) : lexL f endT a = [] := by
  cases f with
  | zero => rfl
  | succ f => unfold lexL; rw [endT_sk]
theorem gapT_ends : ∀ (l : List Tk) (gs : List Nat), (∀ g ∈ gs, g < 6) → Ends (gapT l gs ++ endT)
  | [], _, _ => .inr ⟨32, _, rfl, .inr (.inl rfl)⟩
  | _ :: _, [], _ => .inr ⟨32, _, rfl, .inr (.inl rfl)⟩
  | x :: r, g :: gs, h => by
    have := fill_ends (h g (by simp)) (x.t.data.toList ++ gapT r gs ++ endT)
    show Ends (fillN g ++ (x.t.data.toList ++ gapT r gs) ++ endT)
    rw [List.append_assoc]; exact this
theorem lexL_gap : ∀ (l : List Tk) (gs : List Nat) (f a : Nat), l.length = gs.length → (∀ x ∈ l, GoodT x) → (∀ g ∈ gs, g < 6) → (gapT l gs ++ endT).length < f → lexL f (gapT l gs ++ endT) a = gapA a l gs
  | [], [], f, a, _, _, _, _ => lexL_end f a
  | [], _ :: _, _, _, h, _, _, _ => by simp at h
  | _ :: _, [], _, _, h, _, _, _ => by simp at h
  | x :: r, g :: gs, f, a, hl, hx, hg, h => by
    have hpos : 0 < x.t.data.toList.length := List.length_pos_iff.2 (hx x (by simp)).pos
    have e : gapT (x :: r) (g :: gs) ++ endT = fillN g ++ (x.t.data.toList ++ (gapT r gs ++ endT)) := by
      show fillN g ++ (x.t.data.toList ++ gapT r gs) ++ endT = _
      simp only [List.append_assoc]
    rw [e] at h ⊢
    simp only [List.length_append] at h
    rw [lexL_fill (hg g (by simp)) f _ a (by simp only [List.length_append]; omega)]
    cases f with
    | zero => omega
    | succ f =>
      rw [lexL_one (hx x (by simp)) _ (gapT_ends r gs (fun y hy => hg y (List.mem_cons_of_mem _ hy)))]
      rw [lexL_gap r gs f _ (by simpa using hl) (fun y hy => hx y (List.mem_cons_of_mem _ hy)) (fun y hy => hg y (List.mem_cons_of_mem _ hy)) (by simp only [List.length_append]; omega)]
      rfl
theorem gapA_alike : ∀ (l : List Tk) (gs : List Nat) (a : Nat), l.length = gs.length → Alike (gapA a l gs) l
  | [], [], _, _ => rfl
  | [], _ :: _, _, h => by simp at h
  | _ :: _, [], _, h => by simp at h
  | x :: r, g :: gs, a, h => by
    have ih := gapA_alike r gs (a + (fillN g).length + x.t.data.toList.length) (by simpa using h)
    unfold Alike at ih ⊢
    show _ :: _ = _ :: _
    rw [ih]
theorem gapA_e : ∀ (l : List Tk) (gs : List Nat) (a : Nat), ∀ x ∈ gapA a l gs, x.e = 0
  | [], [], _, x, h => by simp [gapA] at h
  | [], _ :: _, _, x, h => by simp [gapA] at h
  | _ :: _, [], _, x, h => by simp [gapA] at h
  | y :: r, g :: gs, a, x, h => by
    rcases List.mem_cons.1 h with rfl | h
    · rfl
    · exact gapA_e r gs _ x h
/-- The text grows token by token. -/
theorem gapT_snoc : ∀ (l : List Tk) (gs : List Nat) (x : Tk) (g : Nat), l.length = gs.length → gapT (l ++ [x]) (gs ++ [g]) = gapT l gs ++ (fillN g ++ x.t.data.toList)
  | [], [], x, g, _ => by simp [gapT]
  | [], _ :: _, _, _, h => by simp at h
  | _ :: _, [], _, _, h => by simp at h
  | y :: r, k :: gs, x, g, h => by
    show fillN k ++ (y.t.data.toList ++ gapT (r ++ [x]) (gs ++ [g])) = fillN k ++ (y.t.data.toList ++ gapT r gs) ++ (fillN g ++ x.t.data.toList)
    rw [gapT_snoc r gs x g (by simpa using h)]
    simp only [List.append_assoc]
theorem gapA_snoc : ∀ (l : List Tk) (gs : List Nat) (x : Tk) (g a : Nat), l.length = gs.length → gapA a (l ++ [x]) (gs ++ [g]) = gapA a l gs ++ [⟨x.k, x.t, a + (gapT l gs).length + (fillN g).length, 0⟩]
  | [], [], x, g, a, _ => by simp [gapA, gapT]
  | [], _ :: _, _, _, _, h => by simp at h
  | _ :: _, [], _, _, _, h => by simp at h
  | y :: r, k :: gs, x, g, a, h => by
    have ih := gapA_snoc r gs x g (a + (fillN k).length + y.t.data.toList.length) (by simpa using h)
    have e1 : gapA a (y :: r ++ [x]) (k :: gs ++ [g]) = ⟨y.k, y.t, a + (fillN k).length, 0⟩ :: gapA (a + (fillN k).length + y.t.data.toList.length) (r ++ [x]) (gs ++ [g]) := rfl
    rw [e1, ih]
    have : a + (fillN k).length + y.t.data.toList.length + (gapT r gs).length = a + (gapT (y :: r) (k :: gs)).length := by
      show _ = a + (fillN k ++ (y.t.data.toList ++ gapT r gs)).length
      simp only [List.length_append]; omega
    rw [this]; rfl
end Go.Proofs.YtpnkmpmgadciaaaDoor
