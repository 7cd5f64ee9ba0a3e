/- Every valid term is what its text reads as: the induction; different valid terms have different texts. -/
import Derived.Test.YtikofhldihimaaaGreatDoorUr
namespace Go.Proofs.YtikofhldihimaaaGreatDoor
open Go.RowKit

theorem args_read : ∀ (ts : List Tm) (t : Tm), Reads t → (∀ x ∈ ts, Reads x) → ∀ rest, ∃ g, rdA g (t.text ++ (Tm.textF 44 ts ++ 41 :: rest)) = some (t :: ts, rest)
  | [], t, ht, _, rest => by
    obtain ⟨g, hg⟩ := ht.I (41 :: rest) (.inr ⟨41, rest, rfl, rfl⟩)
    refine ⟨g + 1, ?_⟩
    simp only [Tm.textF, List.nil_append]
    rw [rdA, hg]
    simp only []
    rw [if_neg (by decide)]
    first | rw [if_pos rfl] | rw [if_pos trivial]
  | t2 :: ts, t, ht, hs, rest => by
    obtain ⟨g2, h2⟩ := args_read ts t2 (hs t2 (List.mem_cons_self ..)) (fun x hx => hs x (List.mem_cons_of_mem _ hx)) rest
    obtain ⟨g1, h1⟩ := ht.I (44 :: (t2.text ++ (Tm.textF 44 ts ++ 41 :: rest))) (.inr ⟨44, _, rfl, rfl⟩)
    refine ⟨g1 + g2 + 1, ?_⟩
    have e : t.text ++ (Tm.textF 44 (t2 :: ts) ++ 41 :: rest) = t.text ++ 44 :: (t2.text ++ (Tm.textF 44 ts ++ 41 :: rest)) := by
      simp only [Tm.textF, List.cons_append, List.append_assoc]
    have h3 := up_A h2 g1
    rw [Nat.add_comm] at h3
    rw [e, rdA, up_I h1 g2]
    simp only []
    first | rw [if_pos rfl, h3] | rw [if_pos trivial, h3]

theorem len2 {l : List Tm} (h : l.length = 2) : ∃ a b, l = [a, b] := by
  match l, h with
  | [a, b], _ => exact ⟨a, b, rfl⟩
theorem wrd_no {c : UInt8} (h : wrd c = true) : c ≠ 45 ∧ c ≠ 40 := by
  refine ⟨?_, ?_⟩ <;> (rintro rfl; revert h; decide +kernel)
theorem dig_no {c : UInt8} (h : dig c = true) : c ≠ 45 ∧ c ≠ 40 := wrd_no (dig_wrd c h)
theorem toArray_list (s : ByteArray) : (⟨s.data.toList.toArray⟩ : ByteArray) = s := (bytes_of rfl).symm

/-- A name, then what may follow. -/
theorem name_read {s : ByteArray} (hN : NameL s.data.toList) {k : Int} (hk : (if symbolB s then (2 : Int) else 3) = k) {rest : List UInt8} (hr : Follow stopC rest) :
    rdF 1 (s.data.toList ++ rest) = some (.mk k 0 s [], rest) := by
  obtain ⟨⟨c, r, hl, hc⟩, hw⟩ := hN
  obtain ⟨h1, h2⟩ := run_stop hw (follow_run (fun c h => (stop_wrd h).1) hr)
  have hnm : nameT s.data.toList = .mk k 0 s [] := by unfold nameT; rw [toArray_list, hk]
  have hcw := hw c (by rw [hl]; exact List.mem_cons_self ..)
  rw [hl, List.cons_append] at h1 h2 ⊢
  rw [rdF, if_neg (wrd_no hcw).1, if_neg (wrd_no hcw).2, if_neg (by rw [hc]; simp), if_pos hcw, h1, h2, ← hl, hnm]
  rcases hr with rfl | ⟨d, q, rfl, hd⟩
  · rfl
  · simp only []
    rw [if_neg (stop_wrd hd).2.2]

set_option maxHeartbeats 1000000 in
theorem reads : ∀ t : Tm, t.rq = true → Reads t := by
  intro t
  induction t using Tm.ind with
  | h k n s us ih =>
    intro hq
    simp only [Tm.rq, Bool.and_eq_true] at hq
    obtain ⟨hr, hL⟩ := hq
    have hsub : ∀ x ∈ us, Reads x := fun x hx => ih x hx (rqL_mem hL hx)
    have hrq : ∀ x ∈ us, x.rq = true := fun x hx => rqL_mem hL hx
    clear ih
    unfold reqB at hr
    by_cases h1 : k = 1
    · subst h1
      rw [if_pos rfl] at hr
      simp only [Bool.and_eq_true, decide_eq_true_eq] at hr
      obtain ⟨⟨⟨_, _⟩, hse⟩, hm⟩ := hr
      have hs : s = ⟨#[]⟩ := by rw [bytes_toList] at hse; exact bytes_of (by simpa using hse)
      have hu : us = [] := List.length_eq_zero_iff.1 hm
      subst hs hu
      refine fac_reads (fun rest hrest => ⟨1, ?_⟩) (fun h => absurd rfl h)
      rw [text_1]
      unfold Lib.itoa
      have hfr := follow_run (p := dig) (fun c h => (stop_wrd h).2.1) hrest
      by_cases hn : n < 0
      · rw [if_pos hn]
        obtain ⟨d, q, hdq⟩ := dec_nonempty n.natAbs
        have hall := dec_dig n.natAbs
        have hv := dec_dval n.natAbs
        obtain ⟨e1, e2⟩ := run_stop hall hfr
        rw [hdq] at e1 e2 hall hv ⊢
        rw [List.cons_append] at e1 e2
        rw [List.cons_append, List.cons_append, rdF, if_pos rfl]
        unfold minusT
        simp only []
        rw [if_pos (hall d (List.mem_cons_self ..)), e1, e2, hv]
        have : -((n.natAbs : Nat) : Int) = n := by omega
        rw [this]
      · rw [if_neg hn]
        obtain ⟨d, q, hdq⟩ := dec_nonempty n.toNat
        have hall := dec_dig n.toNat
        have hv := dec_dval n.toNat
        obtain ⟨e1, e2⟩ := run_stop hall hfr
        rw [hdq] at e1 e2 hall hv ⊢
        rw [List.cons_append] at e1 e2
        have hd := hall d (List.mem_cons_self ..)
        rw [List.cons_append, rdF, if_neg (dig_no hd).1, if_neg (dig_no hd).2, if_pos hd, e1, e2, hv]
        have : ((n.toNat : Nat) : Int) = n := by omega
        rw [this]
    rw [if_neg h1] at hr
    by_cases h2 : k = 2
    · subst h2
      rw [if_pos rfl] at hr
      simp only [Bool.and_eq_true, decide_eq_true_eq] at hr
      obtain ⟨⟨rfl, hm⟩, hs⟩ := hr
      have hu : us = [] := List.length_eq_zero_iff.1 hm
      subst hu
      have hN := nameL_symbol hs
      have ht : (Tm.mk 2 0 s []).text = s.data.toList := text_0 2 0 s [] ⟨by decide, by decide, by decide, by decide⟩
      refine fac_reads (fun rest hrest => ⟨1, ?_⟩) (fun _ => ?_)
      · rw [ht]; exact name_read hN (by rw [hs]; rfl) hrest
      · rw [ht]; obtain ⟨⟨c, r, hl, hc⟩, _⟩ := hN; exact ⟨c, r, hl, hc⟩
    rw [if_neg h2] at hr
    by_cases h3 : k = 3
    · subst h3
      rw [if_pos rfl] at hr
      simp only [Bool.and_eq_true, decide_eq_true_eq] at hr
      obtain ⟨⟨rfl, hm⟩, hs⟩ := hr
      have hu : us = [] := List.length_eq_zero_iff.1 hm
      subst hu
      have hN := nameL_variable hs
      have ht : (Tm.mk 3 0 s []).text = s.data.toList := text_0 3 0 s [] ⟨by decide, by decide, by decide, by decide⟩
      refine fac_reads (fun rest hrest => ⟨1, ?_⟩) (fun _ => ?_)
      · rw [ht]; exact name_read hN (by rw [variable_nosymbol hs]; rfl) hrest
      · rw [ht]; obtain ⟨⟨c, r, hl, hc⟩, _⟩ := hN; exact ⟨c, r, hl, hc⟩
    rw [if_neg h3] at hr
    by_cases h4 : k = 4
    · subst h4
      rw [if_pos rfl] at hr
      simp only [Bool.and_eq_true, decide_eq_true_eq] at hr
      obtain ⟨⟨⟨rfl, hm1⟩, _⟩, hs⟩ := hr
      cases us with
      | nil => simp at hm1
      | cons t ts =>
        obtain ⟨⟨c, r, hl, hc⟩, hw⟩ := nameL_symbol hs
        have ht : (Tm.mk 4 0 s (t :: ts)).text = s.data.toList ++ (40 :: (t.text ++ (Tm.textF 44 ts ++ [41]))) := by
          rw [text_4]
          simp only [Tm.textF, List.cons_append, List.append_assoc]
        refine fac_reads (fun rest _ => ?_) (fun _ => ?_)
        · obtain ⟨g, hg⟩ := args_read ts t (hsub t (List.mem_cons_self ..)) (fun x hx => hsub x (List.mem_cons_of_mem _ hx)) rest
          refine ⟨g + 1, ?_⟩
          have e : (Tm.mk 4 0 s (t :: ts)).text ++ rest = s.data.toList ++ (40 :: (t.text ++ (Tm.textF 44 ts ++ 41 :: rest))) := by
            rw [ht]; simp only [List.cons_append, List.append_assoc, List.nil_append]
          obtain ⟨e1, e2⟩ := run_stop (rest := 40 :: (t.text ++ (Tm.textF 44 ts ++ 41 :: rest))) hw (.inr ⟨40, _, rfl, by decide +kernel⟩)
          have hcw := hw c (by rw [hl]; exact List.mem_cons_self ..)
          rw [e]
          rw [hl, List.cons_append] at e1 e2 ⊢
          rw [rdF, if_neg (wrd_no hcw).1, if_neg (wrd_no hcw).2, if_neg (by rw [hc]; simp), if_pos hcw, e1, e2]
          simp only []
          first | rw [if_pos rfl, hg, ← hl] | rw [if_pos trivial, hg, ← hl]
        · rw [ht, hl]; exact ⟨c, _, rfl, hc⟩
    rw [if_neg h4] at hr
    by_cases h5 : k = 5
    · subst h5
      rw [if_pos rfl] at hr
      simp only [Bool.and_eq_true, decide_eq_true_eq] at hr
      obtain ⟨rfl, ho⟩ := hr
      have hcase : (s.data.toList = [45] ∧ us.length = 1) ∨ (∃ c, s.data.toList = [c] ∧ (opP c = true ∨ opS c = true) ∧ us.length = 2) := by
        unfold operB at ho
        rw [bytes_toList] at ho
        split at ho
        · rename_i h
          have h45 : s.data.toList = [45] := by simpa using h
          simp only [Bool.or_eq_true, decide_eq_true_eq] at ho
          rcases ho with h6 | h6
          · exact .inl ⟨h45, h6⟩
          · exact .inr ⟨45, h45, .inr rfl, h6⟩
        · simp only [Bool.and_eq_true, Bool.or_eq_true, decide_eq_true_eq, beq_iff_eq] at ho
          obtain ⟨h6, h7⟩ := ho
          rcases h6 with ((h6 | h6) | h6) | h6
          · exact .inr ⟨43, h6, .inr rfl, h7⟩
          · exact .inr ⟨42, h6, .inl rfl, h7⟩
          · exact .inr ⟨47, h6, .inl rfl, h7⟩
          · exact .inr ⟨92, h6, .inl rfl, h7⟩
      rcases hcase with ⟨hs, hm⟩ | ⟨c, hs, hc, hm⟩
      · obtain ⟨x, rfl⟩ := List.length_eq_one_iff.1 hm
        have hx := hsub x (List.mem_singleton.2 rfl)
        have hxq := hrq x (List.mem_singleton.2 rfl)
        have hsb := bytes_of hs
        have hfac : facB (Tm.mk 5 0 s [x]) = true := rfl
        have hd : ∃ d q, opT 3 0 x = d :: q ∧ dig d = false := by
          rcases need_un hxq with h | ⟨h, h'⟩
          · exact ⟨40, x.text ++ [41], by unfold opT; rw [h]; rfl, by decide +kernel⟩
          · cases he : enclosedB 3 0 x
            · obtain ⟨d, q, h6, h7⟩ := hx.H h h'
              exact ⟨d, q, by unfold opT; rw [he]; exact h6, h7⟩
            · exact ⟨40, x.text ++ [41], by unfold opT; rw [he]; rfl, by decide +kernel⟩
        obtain ⟨d, q, hdq, hdd⟩ := hd
        refine fac_reads (fun rest hrest => ?_) (fun _ => ?_)
        · obtain ⟨g, hg⟩ := op_fac (o := 3) (i := 0) hx (by rcases need_un hxq with h | h; exact .inl h; exact .inr h.1) hrest
          refine ⟨g + 1, ?_⟩
          rw [text_un, hs, List.append_assoc, List.singleton_append]
          rw [hdq, List.cons_append] at hg ⊢
          rw [rdF, if_pos rfl]
          unfold minusT
          simp only []
          rw [if_neg (by rw [hdd]; simp), hg]
          simp only []
          rw [hsb]
        · rw [text_un, hs]; exact ⟨45, _, rfl, by decide +kernel⟩
      · obtain ⟨a, b, rfl⟩ := len2 hm
        have ha := hsub a (by simp)
        have hb := hsub b (by simp)
        have haq := hrq a (by simp)
        have hbq := hrq b (by simp)
        have hsb := bytes_of hs
        have htx := text_bin 0 s a b
        have hfac : facB (Tm.mk 5 0 s [a, b]) = false := rfl
        rcases hc with hc | hc
        · have hst : strengthI 5 s 2 = 2 := by
            unfold strengthI
            rw [bytes_toList, hs, if_neg (by decide), if_neg (by decide), if_neg]
            unfold opP at hc
            simp only [Bool.or_eq_true, beq_iff_eq] at hc
            rcases hc with (rfl | rfl) | rfl <;> decide
          rw [hst] at htx
          refine prod_reads hfac (fun rest f v hrest hv => ?_)
          obtain ⟨g1, h6⟩ := op_fac (o := 2) (i := 1) hb (need_2r hbq) hrest
          have hstep : rdPL (g1 + f + 1) a (c :: (opT 2 1 b ++ rest)) = some v := by
            rw [rdPL, if_pos hc, up_F h6 f]
            simp only []
            rw [← hsb, Nat.add_comm]
            exact up_PL hv g1
          have hcs : stopC c = true := by
            unfold opP at hc
            simp only [Bool.or_eq_true, beq_iff_eq] at hc
            rcases hc with (rfl | rfl) | rfl <;> rfl
          have := op_P (o := 2) (i := 0) ha (need_2l haq) (.inr ⟨c, _, rfl, hcs⟩) hstep
          rw [htx, hs]
          simpa only [List.append_assoc, List.singleton_append, List.cons_append, List.nil_append] using this
        · have hst : strengthI 5 s 2 = 1 := by
            unfold strengthI
            rw [bytes_toList, hs, if_neg (by decide), if_neg (by decide), if_pos]
            unfold opS at hc
            simp only [Bool.or_eq_true, beq_iff_eq] at hc
            rcases hc with rfl | rfl <;> decide
          rw [hst] at htx
          have hprod : prodB (Tm.mk 5 0 s [a, b]) = false := by
            show ((5 : Int) == 5 && [a, b].length == 2 && !(s.toList == [43] || s.toList == [45])) = false
            rw [bytes_toList, hs]
            unfold opS at hc
            simp only [Bool.or_eq_true, beq_iff_eq] at hc
            rcases hc with rfl | rfl <;> rfl
          refine sum_reads hfac hprod (fun rest f v hrest hv => ?_)
          obtain ⟨g1, h6⟩ := op_P (o := 1) (i := 1) hb (need_1r hbq) (hrest.imp stopS_C) (stay_P (x := b) hrest)
          have hstep : rdSL (g1 + f + 1) a (c :: (opT 1 1 b ++ rest)) = some v := by
            rw [rdSL, if_pos hc, up_P h6 f]
            simp only []
            rw [← hsb, Nat.add_comm]
            exact up_SL hv g1
          have hcs : stopS c = true := by
            unfold opS at hc
            simp only [Bool.or_eq_true, beq_iff_eq] at hc
            rcases hc with rfl | rfl <;> rfl
          have := op_S (o := 1) (i := 0) ha (need_0 1 0) (.inr ⟨c, _, rfl, hcs⟩) hstep
          rw [htx, hs]
          simpa only [List.append_assoc, List.singleton_append, List.cons_append, List.nil_append] using this
    rw [if_neg h5] at hr
    by_cases h6 : k = 6
    · subst h6
      rw [if_pos rfl] at hr
      simp only [Bool.and_eq_true, decide_eq_true_eq] at hr
      obtain ⟨⟨rfl, hse⟩, hm⟩ := hr
      have hs : s = ⟨#[]⟩ := by rw [bytes_toList] at hse; exact bytes_of (by simpa using hse)
      subst hs
      obtain ⟨a, b, rfl⟩ := len2 hm
      have ha := hsub a (by simp)
      have hb := hsub b (by simp)
      refine rng_reads rfl rfl rfl (fun rest hrest => ?_)
      obtain ⟨g2, h7⟩ := op_S (o := 0) (i := 1) hb (need_0 0 1) (hrest.imp fun c h => (stopI_S c h).1) (stay_SI (x := b) hrest)
      obtain ⟨g1, h8⟩ := op_S (o := 0) (i := 0) (rest := 46 :: 46 :: (opT 0 1 b ++ rest)) ha (need_0 0 0) (.inr ⟨46, _, rfl, rfl⟩) (stay_S (x := a) (r := 46 :: (opT 0 1 b ++ rest)) (c := 46) rfl)
      refine ⟨g1 + g2 + 1, ?_⟩
      have h9 := up_S h7 g1
      rw [Nat.add_comm] at h9
      rw [text_rng]
      have e : opT 0 0 a ++ ([46, 46] ++ opT 0 1 b) ++ rest = opT 0 0 a ++ 46 :: 46 :: (opT 0 1 b ++ rest) := by
        simp only [List.append_assoc, List.cons_append, List.nil_append]
      have hdt : dots (46 :: 46 :: (opT 0 1 b ++ rest)) = some (opT 0 1 b ++ rest) := rfl
      rw [e, rdI, up_S h8 g2]
      simp only [hdt, h9]
    · rw [if_neg h6] at hr; cases hr

/-- Different valid terms have different texts. -/
theorem text_inj {a b : Tm} (ha : a.validB = true) (hb : b.validB = true) (h : a.text = b.text) : a = b := by
  obtain ⟨g1, h1⟩ := (reads a (rq_of 1 a ha)).I [] (.inl rfl)
  obtain ⟨g2, h2⟩ := (reads b (rq_of 1 b hb)).I [] (.inl rfl)
  rw [List.append_nil] at h1 h2
  have h3 := up_I h1 g2
  have h4 := up_I h2 g1
  rw [Nat.add_comm g2 g1, ← h] at h4
  rw [h3] at h4
  injection h4 with h5
  exact congrArg Prod.fst h5
end Go.Proofs.YtikofhldihimaaaGreatDoor
