/- Every valid term is what its text reads as, so different terms have different texts: plain mathematics. -/
import Derived.Test.YtikofhldihimaaaGreatDoorUq
namespace Go.Proofs.YtikofhldihimaaaGreatDoor
open Go.RowKit

mutual
def Tm.rq : Tm → Bool
  | .mk k n s us => reqB k n s us.length && Tm.rqL us
def Tm.rqL : List Tm → Bool
  | [] => true
  | t :: ts => Tm.rq t && Tm.rqL ts
end
mutual
theorem rq_of (l : Nat) : ∀ t : Tm, (t.nodes l).all nodeOkB = true → t.rq = true
  | .mk k n s us, h => by
    simp only [Tm.nodes, List.all_cons, Bool.and_eq_true] at h
    simp only [Tm.rq, Bool.and_eq_true]
    refine ⟨?_, rqL_of (l + 1) us h.2⟩
    have h1 := h.1
    unfold nodeOkB at h1
    rw [Bool.and_eq_true] at h1
    exact h1.2
theorem rqL_of (l : Nat) : ∀ ts : List Tm, (Tm.nodesL l ts).all nodeOkB = true → Tm.rqL ts = true
  | [], _ => rfl
  | t :: ts, h => by
    simp only [Tm.nodesL, List.all_append, Bool.and_eq_true] at h
    simp only [Tm.rqL, Bool.and_eq_true]
    exact ⟨rq_of l t h.1, rqL_of l ts h.2⟩
end
theorem rqL_mem : ∀ {ts : List Tm} {t : Tm}, Tm.rqL ts = true → t ∈ ts → t.rq = true
  | x :: ts, t, h, hm => by
    simp only [Tm.rqL, Bool.and_eq_true] at h
    rcases List.mem_cons.1 hm with h1 | h1
    · rw [h1]; exact h.1
    · exact rqL_mem h.2 h1

/-! ### The levels of the grammar -/
def facB : Tm → Bool
  | .mk k _ _ us => k == 1 || k == 2 || k == 3 || k == 4 || (k == 5 && us.length == 1)
def prodB : Tm → Bool
  | .mk k _ s us => k == 5 && us.length == 2 && !(s.toList == [43] || s.toList == [45])
def sumB : Tm → Bool
  | .mk k _ s us => k == 5 && us.length == 2 && (s.toList == [43] || s.toList == [45])
def rngB : Tm → Bool
  | .mk k _ _ _ => k == 6
def opT (o : Int) (i : Nat) (x : Tm) : List UInt8 := if enclosedB o i x then 40 :: (x.text ++ [41]) else x.text

structure Reads (t : Tm) : Prop where
  F : facB t = true → ∀ rest, Follow stopC rest → ∃ g, rdF g (t.text ++ rest) = some (t, rest)
  P : (facB t || prodB t) = true → ∀ rest f v, Follow stopC rest → rdPL f t rest = some v → ∃ g, rdP g (t.text ++ rest) = some v
  S : rngB t = false → ∀ rest f v, Follow stopS rest → rdSL f t rest = some v → ∃ g, rdS g (t.text ++ rest) = some v
  I : ∀ rest, Follow stopI rest → ∃ g, rdI g (t.text ++ rest) = some (t, rest)
  H : facB t = true → t.kind ≠ 1 → ∃ d q, t.text = d :: q ∧ dig d = false

theorem P_of_F {l rest : List UInt8} {t : Tm} {f : Nat} {v : Tm × List UInt8} (hF : ∃ g, rdF g l = some (t, rest)) (hv : rdPL f t rest = some v) : ∃ g, rdP g l = some v := by
  obtain ⟨g, hg⟩ := hF
  refine ⟨g + f + 1, ?_⟩
  rw [rdP, up_F hg f]
  have h := up_PL hv g
  rw [Nat.add_comm] at h
  exact h
theorem S_of_P {l rest : List UInt8} {t : Tm} {f : Nat} {v : Tm × List UInt8} (hP : ∃ g, rdP g l = some (t, rest)) (hv : rdSL f t rest = some v) : ∃ g, rdS g l = some v := by
  obtain ⟨g, hg⟩ := hP
  refine ⟨g + f + 1, ?_⟩
  rw [rdS, up_P hg f]
  have h := up_SL hv g
  rw [Nat.add_comm] at h
  exact h
theorem I_of_S {l rest : List UInt8} {t : Tm} (hS : ∃ g, rdS g l = some (t, rest)) (hd : dots rest = none) : ∃ g, rdI g l = some (t, rest) := by
  obtain ⟨g, hg⟩ := hS
  refine ⟨g + 1, ?_⟩
  rw [rdI, hg]
  simp only [hd]
theorem enc {l rest : List UInt8} {x : Tm} (h : ∃ g, rdI g (l ++ 41 :: rest) = some (x, 41 :: rest)) : ∃ g, rdF g (40 :: (l ++ 41 :: rest)) = some (x, rest) := by
  obtain ⟨g, hg⟩ := h
  refine ⟨g + 1, ?_⟩
  rw [rdF, if_neg (by decide), if_pos rfl, hg]
  simp only [if_true]

theorem fac_reads {t : Tm} (F : ∀ rest, Follow stopC rest → ∃ g, rdF g (t.text ++ rest) = some (t, rest)) (H : t.kind ≠ 1 → ∃ d q, t.text = d :: q ∧ dig d = false) : Reads t where
  F := fun _ => F
  P := fun _ rest _f _v hr hv => P_of_F (F rest hr) hv
  S := fun _ rest _f _v hr hv => S_of_P (P_of_F (F rest (hr.imp stopS_C)) (stay_P hr)) hv
  I := fun rest hr => I_of_S (S_of_P (P_of_F (F rest (hr.imp fun c h => stopS_C c (stopI_S c h).1)) (stay_P (hr.imp fun c h => (stopI_S c h).1))) (stay_SI hr)) (no_dots hr)
  H := fun _ => H
theorem prod_reads {t : Tm} (hf : facB t = false) (P : ∀ rest f v, Follow stopC rest → rdPL f t rest = some v → ∃ g, rdP g (t.text ++ rest) = some v) : Reads t where
  F := fun h => by rw [hf] at h; cases h
  P := fun _ => P
  S := fun _ rest f v hr hv => S_of_P (P rest 1 _ (hr.imp stopS_C) (stay_P hr)) hv
  I := fun rest hr => I_of_S (S_of_P (P rest 1 _ (hr.imp fun c h => stopS_C c (stopI_S c h).1) (stay_P (hr.imp fun c h => (stopI_S c h).1))) (stay_SI hr)) (no_dots hr)
  H := fun h => by rw [hf] at h; cases h
theorem sum_reads {t : Tm} (hf : facB t = false) (hp : prodB t = false) (S : ∀ rest f v, Follow stopS rest → rdSL f t rest = some v → ∃ g, rdS g (t.text ++ rest) = some v) : Reads t where
  F := fun h => by rw [hf] at h; cases h
  P := fun h => by rw [hf, hp] at h; cases h
  S := fun _ => S
  I := fun rest hr => I_of_S (S rest 1 _ (hr.imp fun c h => (stopI_S c h).1) (stay_SI hr)) (no_dots hr)
  H := fun h => by rw [hf] at h; cases h
theorem rng_reads {t : Tm} (hf : facB t = false) (hp : prodB t = false) (hg : rngB t = true) (I : ∀ rest, Follow stopI rest → ∃ g, rdI g (t.text ++ rest) = some (t, rest)) : Reads t where
  F := fun h => by rw [hf] at h; cases h
  P := fun h => by rw [hf, hp] at h; cases h
  S := fun h => by rw [hg] at h; cases h
  I := I
  H := fun h => by rw [hf] at h; cases h

theorem op_fac {x : Tm} (hx : Reads x) {o : Int} {i : Nat} {rest : List UInt8} (h : enclosedB o i x = true ∨ facB x = true) (hr : Follow stopC rest) : ∃ g, rdF g (opT o i x ++ rest) = some (x, rest) := by
  unfold opT
  cases he : enclosedB o i x
  · rw [he] at h
    rw [if_neg (by simp)]
    exact hx.F (by rcases h with h | h; cases h; exact h) rest hr
  · rw [if_pos rfl, List.cons_append, List.append_assoc]
    exact enc (hx.I (41 :: rest) (.inr ⟨41, rest, rfl, rfl⟩))
theorem op_P {x : Tm} (hx : Reads x) {o : Int} {i : Nat} {rest : List UInt8} {f : Nat} {v : Tm × List UInt8} (h : enclosedB o i x = true ∨ (facB x || prodB x) = true) (hr : Follow stopC rest) (hv : rdPL f x rest = some v) : ∃ g, rdP g (opT o i x ++ rest) = some v := by
  cases he : enclosedB o i x
  · have e : opT o i x = x.text := by unfold opT; rw [he]; rfl
    rw [e]
    exact hx.P (by rcases h with h | h; rw [he] at h; cases h; exact h) rest f v hr hv
  · exact P_of_F (op_fac hx (.inl he) hr) hv
theorem op_S {x : Tm} (hx : Reads x) {o : Int} {i : Nat} {rest : List UInt8} {f : Nat} {v : Tm × List UInt8} (h : enclosedB o i x = true ∨ rngB x = false) (hr : Follow stopS rest) (hv : rdSL f x rest = some v) : ∃ g, rdS g (opT o i x ++ rest) = some v := by
  cases he : enclosedB o i x
  · have e : opT o i x = x.text := by unfold opT; rw [he]; rfl
    rw [e]
    exact hx.S (by rcases h with h | h; rw [he] at h; cases h; exact h) rest f v hr hv
  · exact S_of_P (P_of_F (op_fac hx (.inl he) (hr.imp stopS_C)) (stay_P hr)) hv

/-- Each valid term is of one level. -/
theorem level {x : Tm} (hq : x.rq = true) : facB x = true ∨ prodB x = true ∨ sumB x = true ∨ rngB x = true := by
  obtain ⟨k, n, s, us⟩ := x
  simp only [Tm.rq, Bool.and_eq_true] at hq
  have hr := hq.1
  unfold reqB at hr
  unfold facB prodB sumB rngB
  by_cases h1 : k = 1
  · left; simp [h1]
  · rw [if_neg h1] at hr
    by_cases h2 : k = 2
    · left; simp [h2]
    · rw [if_neg h2] at hr
      by_cases h3 : k = 3
      · left; simp [h3]
      · rw [if_neg h3] at hr
        by_cases h4 : k = 4
        · left; simp [h4]
        · rw [if_neg h4] at hr
          by_cases h5 : k = 5
          · rw [if_pos h5, Bool.and_eq_true] at hr
            have ho := hr.2
            have hm : us.length = 1 ∨ us.length = 2 := by
              unfold operB at ho
              split at ho
              · simpa using ho
              · rw [Bool.and_eq_true, decide_eq_true_eq] at ho; exact .inr ho.2
            rcases hm with hm | hm
            · left; simp [h5, hm]
            · right
              subst h5
              cases hs : (s.toList == [43] || s.toList == [45])
              · left; show ((5 : Int) == 5 && us.length == 2 && !(s.toList == [43] || s.toList == [45])) = true; rw [hm, hs]; rfl
              · right; left; show ((5 : Int) == 5 && us.length == 2 && (s.toList == [43] || s.toList == [45])) = true; rw [hm, hs]; rfl
          · rw [if_neg h5] at hr
            by_cases h6 : k = 6
            · right; right; right; simp [h6]
            · rw [if_neg h6] at hr; cases hr
theorem encl_rng {x : Tm} (h : rngB x = true) (o : Int) (i : Nat) : enclosedB o i x = true := by
  obtain ⟨k, n, s, us⟩ := x
  have hk : k = 6 := by simpa [rngB] using h
  subst hk; exact encl6 o n i s us
theorem encl_sum {x : Tm} (h : sumB x = true) (o : Int) (i : Nat) : enclosedB o i x = (decide (1 < o) || ((1 : Int) == o && decide (i = 1))) := by
  obtain ⟨k, n, s, us⟩ := x
  simp only [sumB, Bool.and_eq_true, beq_iff_eq] at h
  obtain ⟨⟨rfl, hm⟩, hs⟩ := h
  rw [encl5]
  have e : strengthI 5 s us.length = 1 := by
    unfold strengthI
    rw [if_neg (by decide), if_neg (by omega), if_pos hs]
  rw [e]; rfl
theorem encl_prod {x : Tm} (h : prodB x = true) (o : Int) (i : Nat) : enclosedB o i x = (decide (2 < o) || ((2 : Int) == o && decide (i = 1))) := by
  obtain ⟨k, n, s, us⟩ := x
  simp only [prodB, Bool.and_eq_true, beq_iff_eq, Bool.not_eq_true'] at h
  obtain ⟨⟨rfl, hm⟩, hs⟩ := h
  rw [encl5]
  have e : strengthI 5 s us.length = 2 := by
    unfold strengthI
    rw [if_neg (by decide), if_neg (by omega), if_neg (by rw [hs]; simp)]
  rw [e]; rfl
theorem need_un {x : Tm} (hq : x.rq = true) : enclosedB 3 0 x = true ∨ (facB x = true ∧ x.kind ≠ 1) := by
  rcases level hq with h | h | h | h
  · obtain ⟨k, n, s, us⟩ := x
    by_cases hk : k = 1
    · subst hk; exact .inl (by rw [encl1]; rfl)
    · exact .inr ⟨h, hk⟩
  · exact .inl (by rw [encl_prod h]; rfl)
  · exact .inl (by rw [encl_sum h]; rfl)
  · exact .inl (encl_rng h _ _)
theorem need_2r {x : Tm} (hq : x.rq = true) : enclosedB 2 1 x = true ∨ facB x = true := by
  rcases level hq with h | h | h | h
  · exact .inr h
  · exact .inl (by rw [encl_prod h]; rfl)
  · exact .inl (by rw [encl_sum h]; rfl)
  · exact .inl (encl_rng h _ _)
theorem need_2l {x : Tm} (hq : x.rq = true) : enclosedB 2 0 x = true ∨ (facB x || prodB x) = true := by
  rcases level hq with h | h | h | h
  · exact .inr (by rw [h]; rfl)
  · exact .inr (by rw [h]; simp)
  · exact .inl (by rw [encl_sum h]; rfl)
  · exact .inl (encl_rng h _ _)
theorem need_1r {x : Tm} (hq : x.rq = true) : enclosedB 1 1 x = true ∨ (facB x || prodB x) = true := by
  rcases level hq with h | h | h | h
  · exact .inr (by rw [h]; rfl)
  · exact .inr (by rw [h]; simp)
  · exact .inl (by rw [encl_sum h]; rfl)
  · exact .inl (encl_rng h _ _)
theorem need_0 {x : Tm} (o : Int) (i : Nat) : enclosedB o i x = true ∨ rngB x = false := by
  cases h : rngB x
  · exact .inr rfl
  · exact .inl (encl_rng h o i)

/-! ### The texts of each kind -/
theorem text_un (n : Int) (s : ByteArray) (x : Tm) : (Tm.mk 5 n s [x]).text = s.data.toList ++ opT 3 0 x := by
  rw [text_5]
  have e : strengthI 5 s [x].length = 3 := rfl
  rw [e]
  simp only [Tm.textO, List.length_cons, List.length_nil, Nat.zero_add, if_true, List.append_nil]
  rfl
theorem text_bin (n : Int) (s : ByteArray) (a b : Tm) : (Tm.mk 5 n s [a, b]).text = opT (strengthI 5 s 2) 0 a ++ (s.data.toList ++ opT (strengthI 5 s 2) 1 b) := by
  rw [text_5]
  show Tm.textO (strengthI 5 s 2) 2 s.data.toList 0 [a, b] = _
  unfold opT
  simp [Tm.textO]
theorem text_rng (n : Int) (s : ByteArray) (a b : Tm) : (Tm.mk 6 n s [a, b]).text = opT 0 0 a ++ ([46, 46] ++ opT 0 1 b) := by
  rw [text_6]
  have e : strengthI 6 s [a, b].length = 0 := rfl
  rw [e]
  show Tm.textO 0 2 [46, 46] 0 [a, b] = _
  unfold opT
  simp [Tm.textO]
theorem bytes_of {s : ByteArray} {l : List UInt8} (h : s.data.toList = l) : s = ⟨l.toArray⟩ := by
  cases s with
  | mk d => subst h; simp
theorem bytes_toList (s : ByteArray) : s.toList = s.data.toList := Lib.toList_data s
end Go.Proofs.YtikofhldihimaaaGreatDoor
