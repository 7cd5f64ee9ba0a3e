/- within, Equal. -/
import Derived.Test.YtcoieohbmkjpoaaGreatDoorB1S1
namespace Go.Proofs.YtcoieohbmkjpoaaGreatDoor
open Go.RowKit Go.Shelf Go.Maps
attribute [local go_sem] Oper.semAt_some

/-- A key of the numbers. -/
theorem key_ok {w : World} {lv : Value} {L : List Ato} (h : LstR w lv L) (hg : ∀ x ∈ L, validA x = true ∧ cntA x ≤ 1000000) : ∀ s ∈ L.map atB, keyOf Tryz.prog 9 (.string s) = some (.string (strB s)) := by
  intro s hs
  obtain ⟨x, hx, rfl⟩ := List.mem_map.1 hs
  obtain ⟨i, hi, rfl⟩ := List.mem_iff_getElem.1 hx
  obtain ⟨_, _, v0, v1, _, _, _, ha⟩ := h.at2 i hi
  refine WideMaps.keyOf_string_mk Tryz.underlying9 ?_
  have := atB_size ha (fun _ h => h) (hg _ hx).2 (hg _ hx).1
  unfold maxLen
  omega
/-- The numbers, told by their names. -/
def NumB (w : World) (m n : Nat) (N : List ByteArray) : Prop := ∃ D : DataW Unit, w.ownsMap Tryz.prog 9 (plainElem (H := Unit) Tryz.prog 3) m n D ∧ SetD strB D N
theorem look_key {w wx : World} {m n : Nat} {N : List ByteArray} (h : NumB w m n N) (hb : wx.heap[m]? = w.heap[m]?) (s : ByteArray) (hk : keyOf Tryz.prog 9 (.string s) = some (.string (strB s))) (q : Bool) (hq : q = true ↔ s ∈ N) :
    ∃ v, (Instr.lookup 53 (.map (some m)) (.string s) true).run Tryz.prog wx = .ok (.tuple #[v, .bool q]) wx := by
  obtain ⟨D, ho, hd⟩ := h
  obtain ⟨v, hrun⟩ := ownsMap_ok (ownsMap_same ho hb) (string_keyed Tryz.underlying9) Tryz.underlying53 (show (zeroValue 3).run Tryz.prog wx = .ok (.int .i64 0) wx by kernel_rfl) hk
  refine ⟨v, ?_⟩
  rw [hrun]
  have e : Maps.has D (.string (strB s)) = q := by
    rw [Bool.eq_iff_iff, hd.has s, hq]
    exact ⟨fun ⟨t, ht, e⟩ => strB_inj e ▸ ht, fun h => ⟨s, h, rfl⟩⟩
  rw [e]
theorem NumI.keep {w w2 : World} {m n : Nat} {L : List Ato} (h : NumI w m n L) (hb : Below w.heap.size w w2) : NumI w2 m n L := by
  obtain ⟨D, ho, hd⟩ := h
  exact ⟨D, ownsMap_same ho (hb.block m ho.lt), hd⟩
/-- What within gives. -/
def WthR (q : Bool) (w : World) (e : Ending) (w' : World) : Prop := e = .returned (.bool q) ∧ Below w.heap.size w w'
set_option maxRecDepth 100000 in
set_option maxHeartbeats 4000000 in
theorem within_any (N1 N2 : List ByteArray) (a1 a2 : Option Addr) (n1 c1 n2 c2 : Nat) (m1 k1 : Nat) (m2 m3 k2 k3 : Option Nat) (q : Bool) (w : World) (z1 z2 : Nat) (hL : NumB w m1 z1 N1) (hM : NumB w k1 z2 N2) (hk : ∀ s ∈ N1, keyOf Tryz.prog 9 (.string s) = some (.string (strB s)))
    (hq : q = true ↔ ∀ s ∈ N1, s ∈ N2) :
    Calls Tryz.prog 62 #[.agg #[.slice a1 n1 c1, .map (some m1), .map m2, .map m3], .agg #[.slice a2 n2 c2, .map (some k1), .map k2, .map k3]] w (WthR q w) := by
  obtain ⟨W, hW⟩ : ∃ X, (w.alloc (.cells #[.slice a1 n1 c1, .map (some m1), .map m2, .map m3] 57)).alloc (.cells #[.slice a2 n2 c2, .map (some k1), .map k2, .map k3] 57) = X := ⟨_, rfl⟩
  obtain ⟨hb, r1, r2⟩ := alloc2 w (.cells #[.slice a1 n1 c1, .map (some m1), .map m2, .map m3] 57) (.cells #[.slice a2 n2 c2, .map (some k1), .map k2, .map k3] 57)
  rw [hW] at hb r1 r2
  have hlm : k1 < w.heap.size := by obtain ⟨D, ho, _⟩ := hM; exact ho.lt
  have HM := Lib.hid hM
  have HLM := Lib.hid hlm
  obtain ⟨D1, ho1, hd1⟩ := hL
  have hl1 := ho1.lt
  have ho1' := ownsMap_same ho1 (hb.block m1 hl1)
  have d1 := cells_at r1 1 _ rfl
  have HO1 := Lib.hid ho1'
  have HB := Lib.hid hb
  have HR2 := Lib.hid r2
  have HK := Lib.hid hk
  have HQ := Lib.hid hq
  have HS1 := Lib.hid (Walked.start hd1)
  have HI1 := Lib.hid (show ∀ x ∈ N1, ∀ y ∈ N1, strB x = strB y → x = y from fun x _ y _ e => strB_inj e)
  clear hb r1 r2 hM hk hq ho1 hd1 ho1' hlm hl1
  refine (callsIn_wide (n := 0)).1 ?_
  have hdd : ∀ k : Nat, (Fence.wide.depth.isSome = true → 1 ≤ k) := fun k h => by cases h
  have hro : Fence.wide.round = none := rfl
  refine callsIn_of_wp Tryz.func62 rfl trivial ?_ hro
  simp only [Tryz.ntmps62, List.size_toArray, List.length_cons, List.length_nil, Nat.reduceAdd, Nat.reduceSub, Array.replicate_succ, Array.replicate_zero, List.push_toArray, List.append_toArray, List.nil_append, List.cons_append]
  gi_wp2_with (first
    | (gi_at_range; refine wpListIn_range_own _ rfl _ 53 rfl 9 3 (string_keyed Tryz.underlying9) Tryz.underlying53 (plainElem (H := Unit) Tryz.prog 3) m1 z1 _ rfl HO1.out ?_; intro w0 hrg0 hg0 hs0)
    | fail)
  try go_frame
  have HBW0 := Lib.hid (show Below W.heap.size W w0 from (Below.refl _ W).grown hg0 (Nat.le_refl _) (fun k e => by cases e))
  gi_loopw [11] (fun _ wr => ∃ (left : Lit → Bool) (cnt : Nat) (d : List ByteArray), wr.ranges Tryz.prog 9 (plainElem (H := Unit) Tryz.prog 3) m1 W.heap.size z1 D1 left cnt ∧ Walked strB (N1) N1.length left cnt d ∧ Hid (∀ s ∈ d, s ∈ N2) ∧ Below W.heap.size W wr)
    (fun _ wr => wr.rangeLeft m1 W.heap.size)
  case atStart =>
    exact ⟨_, _, [], hrg0, HS1.out, Lib.hid (fun s hs => by cases hs), HBW0.out⟩
  case round =>
    obtain ⟨left, cnt, d, hrg, hwk, hd, hBr⟩ := hrel
    have HRG := Lib.hid hrg
    have HBR := Lib.hid hBr
    clear hBr
    gi_wp2_with (first
      | (gi_at_next; refine wpListIn_next_keys _ rfl _ rfl 9 (string_keyed Tryz.underlying9) (plainElem (H := Unit) Tryz.prog 3) (fun s : ByteArray => .string s) id strB (N1) HK.out HI1.out (fun v _ _ => ⟨v, rfl⟩) m1 W.heap.size z1 _ _ _ _ _ rfl HRG.out hwk ?_ ?_)
      | fail)
    · intro hall hlen
      obtain rfl : q = true := HQ.out.2 fun s hs => hd.out s ((hall ⟨s⟩).2 hs)
      clear hrg hwk hall hlen
      gi_wp2
      go_returns
      exact ⟨rfl, below_then HB.out HBR.out⟩
    · rintro ⟨s⟩ c yd yp left2 w2 cnt2 hx hlt _ _ hrg2 hwk2 hc2 hg2 hen
      have hb2 : Below W.heap.size W w2 := HBR.out.grown hg2 HBR.out.size (fun k e => by cases e; exact Nat.le_refl _)
      have hleft := HRG.out.left_eq
      have d2 := cells_at ((hb2.block _ (Array.getElem?_eq_some_iff.1 HR2.out).1).trans HR2.out) 1 _ rfl
      have hbk : w2.heap[k1]? = w.heap[k1]? := (hb2.block k1 (Nat.lt_of_lt_of_le HLM.out HB.out.size)).trans (HB.out.block k1 HLM.out)
      have HB2 := Lib.hid hb2
      have HR := Lib.hid hrg2
      have HW2 := Lib.hid hwk2
      have HLE := Lib.hid hleft
      have HC2 := Lib.hid hc2
      by_cases hs : s ∈ N2
      · obtain ⟨v, hlook⟩ := look_key HM.out hbk s (HK.out s hx) true ⟨fun _ => hs, fun _ => rfl⟩
        have HD := Lib.hid (show ∀ u ∈ d ++ [s], u ∈ N2 from fun u hu => (List.mem_append.1 hu).elim (hd.out u) (fun h => by rw [List.mem_singleton.1 h]; exact hs))
        clear hrg hwk hx hlt hrg2 hwk2 hleft hc2 hg2 hb2 hbk hs
        gi_wp2
        go_roundw
        case rel => exact ⟨_, _, d ++ [s], HR.out, HW2.out, HD, HB2.out⟩
        case measure => rw [HR.out.left_eq, HLE.out]; exact HC2.out
      · obtain ⟨v, hlook⟩ := look_key HM.out hbk s (HK.out s hx) false ⟨fun e => (by cases e), fun h => absurd h hs⟩
        obtain rfl : q = false := by
          cases hqq : q with
          | false => rfl
          | true => exact absurd (HQ.out.1 hqq s hx) hs
        clear hrg hwk hx hlt hrg2 hwk2 hleft hc2 hg2 hb2 hbk hs
        gi_wp2
        go_returns
        exact ⟨rfl, below_then HB.out HB2.out⟩
/-- What Equal gives. -/
def EqR (q : Bool) (w : World) (e : Ending) (w' : World) : Prop := e = .returned (.bool q) ∧ Below w.heap.size w w'
theorem keys_iff {L M : List Ato} (hL : ∀ x ∈ L, validA x = true) (hM : ∀ x ∈ M, validA x = true) : (∀ s ∈ L.map atB, s ∈ M.map atB) ↔ ∀ x ∈ L, x ∈ M := by
  constructor
  · intro h x hx
    obtain ⟨y, hy, e⟩ := List.mem_map.1 (h (atB x) (List.mem_map.2 ⟨x, hx, rfl⟩))
    exact atB_inj (hM y hy) (hL x hx) e ▸ hy
  · intro h s hs
    obtain ⟨x, hx, rfl⟩ := List.mem_map.1 hs
    exact List.mem_map.2 ⟨x, h x hx, rfl⟩
set_option maxRecDepth 100000 in
set_option maxHeartbeats 8000000 in
theorem equal_any (B B' S T : Nat) (lab lab' : Lab) (L M : List Ato) (q : Bool) (w : World) (hI : StI w B lab S L) (hJ : StI w B' lab' T M) (hq : q = true ↔ L.length = M.length ∧ ∀ x ∈ L, x ∈ M) :
    Calls Tryz.prog 27 #[.pointer (some ⟨S, 0, none⟩), .pointer (some ⟨T, 0, none⟩)] w (EqR q w) := by
  obtain ⟨la, lc, m1, m2, m3, h0, n1, _, _, hl⟩ := hI.row
  obtain ⟨ka, kc, k1, k2, k3, g0, o1, _, _, _⟩ := hJ.row
  have hkk := key_ok hl.read hI.good
  have hki := keys_iff (fun x hx => (hI.good x hx).1) (fun x hx => (hJ.good x hx).1) (L := L) (M := M)
  have HS := Lib.hid h0
  have HT := Lib.hid g0
  have HN1 := Lib.hid n1
  have HO1 := Lib.hid o1
  have HKK := Lib.hid hkk
  have HLB := Lib.hid (show L.length ≤ 2000 ∧ M.length ≤ 2000 from ⟨hI.len, hJ.len⟩)
  have hlb1 := hI.len
  have hlb2 := hJ.len
  by_cases hlen : L.length = M.length
  · have HQ := Lib.hid (show q = true ↔ ∀ s ∈ L.map atB, s ∈ M.map atB by rw [hki, hq]; exact ⟨fun h => h.2, fun h => ⟨hlen, h⟩⟩)
    have hle : ((L.length : Int) == (M.length : Int)) = true := by simp [hlen]
    have HNM := Lib.hid hlen
    clear hI hJ h0 g0 n1 o1 hl hkk hki hq hlen
    go_enter Tryz.func27, Tryz.ntmps27
    go_wp2_with fail
    have hst := @FL_grow [fV (.pointer (some ⟨S, 0, none⟩)), fV (.bool true), fV (.bool true), fV (.pointer (some ⟨T, 0, none⟩)), fV (.bool true), fV (.bool true), fV (.bool true), fV (.pointer (some ⟨S, 0, none⟩)), fV (.pointer (some ⟨S, 0, none⟩)), fV (.pointer (some ⟨S, 0, none⟩)), fV (.pointer (some ⟨S, 0, none⟩)), fV (.slice la L.length lc), fV (.int .i64 L.length), fV (.pointer (some ⟨T, 0, none⟩)), fV (.pointer (some ⟨T, 0, none⟩)), fV (.pointer (some ⟨T, 0, none⟩)), fV (.pointer (some ⟨T, 0, none⟩)), fV (.slice ka M.length kc), fV (.int .i64 M.length), fV (.bool true), fV (.bool true), fV (.bool true), fV (.pointer (some ⟨S, 0, none⟩)), fV (.pointer (some ⟨S, 0, none⟩)), fV (.pointer (some ⟨S, 0, none⟩)), fV (.agg #[.slice la L.length lc, .map (some m1), .map (some m2), .map (some m3)]), fV (.pointer (some ⟨T, 0, none⟩)), fV (.pointer (some ⟨T, 0, none⟩)), fV (.pointer (some ⟨T, 0, none⟩)), fV (.agg #[.slice ka M.length kc, .map (some k1), .map (some k2), .map (some k3)]), fV (.bool q), fV (.bool q), fV (.bool q)] (by
      intro F hF
      simp only [List.mem_cons, List.not_mem_nil, or_false] at hF
      rcases hF with rfl | rfl | rfl | rfl | rfl | rfl | rfl | rfl | rfl | rfl | rfl | rfl | rfl | rfl | rfl | rfl | rfl | rfl | rfl | rfl | rfl | rfl | rfl | rfl | rfl | rfl | rfl | rfl | rfl | rfl | rfl | rfl | rfl <;> first | exact fV_stays _)
    refine wp_region_grow_orB (by kernel_rfl) (FL [fV (.pointer (some ⟨S, 0, none⟩)), fV (.bool true), fV (.bool true), fV (.pointer (some ⟨T, 0, none⟩)), fV (.bool true), fV (.bool true), fV (.bool true), fV (.pointer (some ⟨S, 0, none⟩)), fV (.pointer (some ⟨S, 0, none⟩)), fV (.pointer (some ⟨S, 0, none⟩)), fV (.pointer (some ⟨S, 0, none⟩)), fV (.slice la L.length lc), fV (.int .i64 L.length), fV (.pointer (some ⟨T, 0, none⟩)), fV (.pointer (some ⟨T, 0, none⟩)), fV (.pointer (some ⟨T, 0, none⟩)), fV (.pointer (some ⟨T, 0, none⟩)), fV (.slice ka M.length kc), fV (.int .i64 M.length), fV (.bool true), fV (.bool true), fV (.bool true), fV (.pointer (some ⟨S, 0, none⟩)), fV (.pointer (some ⟨S, 0, none⟩)), fV (.pointer (some ⟨S, 0, none⟩)), fV (.agg #[.slice la L.length lc, .map (some m1), .map (some m2), .map (some m3)]), fV (.pointer (some ⟨T, 0, none⟩)), fV (.pointer (some ⟨T, 0, none⟩)), fV (.pointer (some ⟨T, 0, none⟩)), fV (.agg #[.slice ka M.length kc, .map (some k1), .map (some k2), .map (some k3)]), fV (.bool q), fV (.bool q), fV (.bool q)]) hst (by kernel_rfl) (steps_or ?_) ?_
    · refine ⟨?_, ?_, ?_, ?_, ?_, ?_, ?_, ?_, ?_, ?_, ?_, ?_, ?_, ?_, ?_, ?_, ?_, ?_, ?_, ?_, ?_, ?_, ?_, ?_, ?_, ?_, ?_, ?_, ?_, ?_, ?_, ?_, ?_, trivial⟩
      · intro a wx hb hd hs ho hp
        refine Or.inl ⟨rfl, ?_⟩
        have h0 : a.tmps.getD 0 undef = .pointer (some ⟨S, 0, none⟩) := (ho 0 (by kernel_rfl)).trans rfl
        unfold Oper.wp
        go_simp
        exact Stepped.at (v := .pointer (some ⟨S, 0, none⟩)) (by first | rfl | simp) hd (Below.refl _ _) rfl
      · intro a wx hb hd hs ho hp
        refine Or.inl ⟨rfl, ?_⟩
        have h5 : a.tmps.getD 5 undef = .pointer (some ⟨S, 0, none⟩) := facts_at hp 0 5 (by kernel_rfl)
        unfold Oper.wp
        go_simp
        refine (made_row S _ _ _ _ wx ((hb.block S (Array.getElem?_eq_some_iff.1 HS.out).1).trans HS.out)).mono ?_
        rintro e w9 ⟨rfl, hw9⟩
        exact Stepped.at (v := .bool true) rfl hd ((by rw [hw9]; exact Below.refl _ _)) rfl
      · intro a wx hb hd hs ho hp
        refine Or.inl ⟨rfl, ?_⟩
        have h6 : a.tmps.getD 6 undef = .bool true := facts_at hp 1 6 (by kernel_rfl)
        unfold Oper.wp
        go_simp
        exact Stepped.at (v := .bool true) (by first | rfl | simp) hd (Below.refl _ _) rfl
      · intro a wx hb hd hs ho hp
        refine Or.inl ⟨wanted_yes rfl (yielded_at (k := 2) (d := 7) (by kernel_rfl) (show a.tmps.getD 7 undef = _ from facts_at hp 2 7 (by kernel_rfl))), ?_⟩
        have h1 : a.tmps.getD 1 undef = .pointer (some ⟨T, 0, none⟩) := (ho 1 (by kernel_rfl)).trans rfl
        unfold Oper.wp
        go_simp
        exact Stepped.at (v := .pointer (some ⟨T, 0, none⟩)) (by first | rfl | simp) hd (Below.refl _ _) rfl
      · intro a wx hb hd hs ho hp
        refine Or.inl ⟨wanted_yes rfl (yielded_at (k := 2) (d := 7) (by kernel_rfl) (show a.tmps.getD 7 undef = _ from facts_at hp 2 7 (by kernel_rfl))), ?_⟩
        have h8 : a.tmps.getD 8 undef = .pointer (some ⟨T, 0, none⟩) := facts_at hp 3 8 (by kernel_rfl)
        unfold Oper.wp
        go_simp
        refine (made_row T _ _ _ _ wx ((hb.block T (Array.getElem?_eq_some_iff.1 HT.out).1).trans HT.out)).mono ?_
        rintro e w9 ⟨rfl, hw9⟩
        exact Stepped.at (v := .bool true) rfl hd ((by rw [hw9]; exact Below.refl _ _)) rfl
      · intro a wx hb hd hs ho hp
        refine Or.inl ⟨rfl, ?_⟩
        have h7 : a.tmps.getD 7 undef = .bool true := facts_at hp 2 7 (by kernel_rfl)
        have h9 : a.tmps.getD 9 undef = .bool true := facts_at hp 4 9 (by kernel_rfl)
        unfold Oper.wp
        go_simp
        exact Stepped.at (v := .bool true) (by first | rfl | simp) hd (Below.refl _ _) rfl
      · intro a wx hb hd hs ho hp
        refine Or.inl ⟨rfl, ?_⟩
        have h10 : a.tmps.getD 10 undef = .bool true := facts_at hp 5 10 (by kernel_rfl)
        unfold Oper.wp
        go_simp
        exact Stepped.at (v := .bool true) (by first | rfl | simp) hd (Below.refl _ _) rfl
      · intro a wx hb hd hs ho hp
        refine Or.inl ⟨wanted_yes rfl (yielded_at (k := 6) (d := 11) (by kernel_rfl) (show a.tmps.getD 11 undef = _ from facts_at hp 6 11 (by kernel_rfl))), ?_⟩
        have h0 : a.tmps.getD 0 undef = .pointer (some ⟨S, 0, none⟩) := (ho 0 (by kernel_rfl)).trans rfl
        unfold Oper.wp
        go_simp
        exact Stepped.at (v := .pointer (some ⟨S, 0, none⟩)) (by first | rfl | simp) hd (Below.refl _ _) rfl
      · intro a wx hb hd hs ho hp
        refine Or.inl ⟨wanted_yes rfl (yielded_at (k := 6) (d := 11) (by kernel_rfl) (show a.tmps.getD 11 undef = _ from facts_at hp 6 11 (by kernel_rfl))), ?_⟩
        have h12 : a.tmps.getD 12 undef = .pointer (some ⟨S, 0, none⟩) := facts_at hp 7 12 (by kernel_rfl)
        unfold Oper.wp
        go_simp
        exact Stepped.at (v := .pointer (some ⟨S, 0, none⟩)) (by first | rfl | simp) hd (Below.refl _ _) rfl
      · intro a wx hb hd hs ho hp
        refine Or.inl ⟨wanted_yes rfl (yielded_at (k := 6) (d := 11) (by kernel_rfl) (show a.tmps.getD 11 undef = _ from facts_at hp 6 11 (by kernel_rfl))), ?_⟩
        have h13 : a.tmps.getD 13 undef = .pointer (some ⟨S, 0, none⟩) := facts_at hp 8 13 (by kernel_rfl)
        unfold Oper.wp
        go_simp
        exact Stepped.at (v := .pointer (some ⟨S, 0, none⟩)) (by first | rfl | simp) hd (Below.refl _ _) rfl
      · intro a wx hb hd hs ho hp
        refine Or.inl ⟨wanted_yes rfl (yielded_at (k := 6) (d := 11) (by kernel_rfl) (show a.tmps.getD 11 undef = _ from facts_at hp 6 11 (by kernel_rfl))), ?_⟩
        have h14 : a.tmps.getD 14 undef = .pointer (some ⟨S, 0, none⟩) := facts_at hp 9 14 (by kernel_rfl)
        unfold Oper.wp
        go_simp
        exact Stepped.at (v := .pointer (some ⟨S, 0, none⟩)) (by first | rfl | simp) hd (Below.refl _ _) rfl
      · intro a wx hb hd hs ho hp
        refine Or.inl ⟨wanted_yes rfl (yielded_at (k := 6) (d := 11) (by kernel_rfl) (show a.tmps.getD 11 undef = _ from facts_at hp 6 11 (by kernel_rfl))), ?_⟩
        have h15 : a.tmps.getD 15 undef = .pointer (some ⟨S, 0, none⟩) := facts_at hp 10 15 (by kernel_rfl)
        have hx := (hb.block S (Array.getElem?_eq_some_iff.1 HS.out).1).trans HS.out
        have x0 := cells_at hx 0 _ rfl
        unfold Oper.wp
        go_simp
        exact Stepped.at (v := .slice la L.length lc) (by first | rfl | simp) hd (Below.refl _ _) rfl
      · intro a wx hb hd hs ho hp
        refine Or.inl ⟨wanted_yes rfl (yielded_at (k := 6) (d := 11) (by kernel_rfl) (show a.tmps.getD 11 undef = _ from facts_at hp 6 11 (by kernel_rfl))), ?_⟩
        have h16 : a.tmps.getD 16 undef = .slice la L.length lc := facts_at hp 11 16 (by kernel_rfl)
        unfold Oper.wp
        go_simp
        refine (count_any _ la L.length lc rfl wx).mono ?_
        rintro e w9 ⟨rfl, hw9⟩
        exact Stepped.at (v := .int .i64 L.length) rfl hd ((by rw [hw9]; exact Below.refl _ _)) rfl
      · intro a wx hb hd hs ho hp
        refine Or.inl ⟨wanted_yes rfl (yielded_at (k := 6) (d := 11) (by kernel_rfl) (show a.tmps.getD 11 undef = _ from facts_at hp 6 11 (by kernel_rfl))), ?_⟩
        have h1 : a.tmps.getD 1 undef = .pointer (some ⟨T, 0, none⟩) := (ho 1 (by kernel_rfl)).trans rfl
        unfold Oper.wp
        go_simp
        exact Stepped.at (v := .pointer (some ⟨T, 0, none⟩)) (by first | rfl | simp) hd (Below.refl _ _) rfl
      · intro a wx hb hd hs ho hp
        refine Or.inl ⟨wanted_yes rfl (yielded_at (k := 6) (d := 11) (by kernel_rfl) (show a.tmps.getD 11 undef = _ from facts_at hp 6 11 (by kernel_rfl))), ?_⟩
        have h18 : a.tmps.getD 18 undef = .pointer (some ⟨T, 0, none⟩) := facts_at hp 13 18 (by kernel_rfl)
        unfold Oper.wp
        go_simp
        exact Stepped.at (v := .pointer (some ⟨T, 0, none⟩)) (by first | rfl | simp) hd (Below.refl _ _) rfl
      · intro a wx hb hd hs ho hp
        refine Or.inl ⟨wanted_yes rfl (yielded_at (k := 6) (d := 11) (by kernel_rfl) (show a.tmps.getD 11 undef = _ from facts_at hp 6 11 (by kernel_rfl))), ?_⟩
        have h19 : a.tmps.getD 19 undef = .pointer (some ⟨T, 0, none⟩) := facts_at hp 14 19 (by kernel_rfl)
        unfold Oper.wp
        go_simp
        exact Stepped.at (v := .pointer (some ⟨T, 0, none⟩)) (by first | rfl | simp) hd (Below.refl _ _) rfl
      · intro a wx hb hd hs ho hp
        refine Or.inl ⟨wanted_yes rfl (yielded_at (k := 6) (d := 11) (by kernel_rfl) (show a.tmps.getD 11 undef = _ from facts_at hp 6 11 (by kernel_rfl))), ?_⟩
        have h20 : a.tmps.getD 20 undef = .pointer (some ⟨T, 0, none⟩) := facts_at hp 15 20 (by kernel_rfl)
        unfold Oper.wp
        go_simp
        exact Stepped.at (v := .pointer (some ⟨T, 0, none⟩)) (by first | rfl | simp) hd (Below.refl _ _) rfl
      · intro a wx hb hd hs ho hp
        refine Or.inl ⟨wanted_yes rfl (yielded_at (k := 6) (d := 11) (by kernel_rfl) (show a.tmps.getD 11 undef = _ from facts_at hp 6 11 (by kernel_rfl))), ?_⟩
        have h21 : a.tmps.getD 21 undef = .pointer (some ⟨T, 0, none⟩) := facts_at hp 16 21 (by kernel_rfl)
        have hx := (hb.block T (Array.getElem?_eq_some_iff.1 HT.out).1).trans HT.out
        have x0 := cells_at hx 0 _ rfl
        unfold Oper.wp
        go_simp
        exact Stepped.at (v := .slice ka M.length kc) (by first | rfl | simp) hd (Below.refl _ _) rfl
      · intro a wx hb hd hs ho hp
        refine Or.inl ⟨wanted_yes rfl (yielded_at (k := 6) (d := 11) (by kernel_rfl) (show a.tmps.getD 11 undef = _ from facts_at hp 6 11 (by kernel_rfl))), ?_⟩
        have h22 : a.tmps.getD 22 undef = .slice ka M.length kc := facts_at hp 17 22 (by kernel_rfl)
        unfold Oper.wp
        go_simp
        refine (count_any _ ka M.length kc rfl wx).mono ?_
        rintro e w9 ⟨rfl, hw9⟩
        exact Stepped.at (v := .int .i64 M.length) rfl hd ((by rw [hw9]; exact Below.refl _ _)) rfl
      · intro a wx hb hd hs ho hp
        refine Or.inl ⟨wanted_yes rfl (yielded_at (k := 6) (d := 11) (by kernel_rfl) (show a.tmps.getD 11 undef = _ from facts_at hp 6 11 (by kernel_rfl))), ?_⟩
        have h17 : a.tmps.getD 17 undef = .int .i64 L.length := facts_at hp 12 17 (by kernel_rfl)
        have h23 : a.tmps.getD 23 undef = .int .i64 M.length := facts_at hp 18 23 (by kernel_rfl)
        unfold Oper.wp
        go_simp
        exact Stepped.at (v := .bool true) (by first | rfl | simp) hd (Below.refl _ _) rfl
      · intro a wx hb hd hs ho hp
        refine Or.inl ⟨rfl, ?_⟩
        have h11 : a.tmps.getD 11 undef = .bool true := facts_at hp 6 11 (by kernel_rfl)
        have h24 : a.tmps.getD 24 undef = .bool true := facts_at hp 19 24 (by kernel_rfl)
        unfold Oper.wp
        go_simp
        exact Stepped.at (v := .bool true) (by first | rfl | simp) hd (Below.refl _ _) rfl
      · intro a wx hb hd hs ho hp
        refine Or.inl ⟨rfl, ?_⟩
        have h25 : a.tmps.getD 25 undef = .bool true := facts_at hp 20 25 (by kernel_rfl)
        unfold Oper.wp
        go_simp
        exact Stepped.at (v := .bool true) (by first | rfl | simp) hd (Below.refl _ _) rfl
      · intro a wx hb hd hs ho hp
        refine Or.inl ⟨wanted_yes rfl (yielded_at (k := 21) (d := 26) (by kernel_rfl) (show a.tmps.getD 26 undef = _ from facts_at hp 21 26 (by kernel_rfl))), ?_⟩
        have h0 : a.tmps.getD 0 undef = .pointer (some ⟨S, 0, none⟩) := (ho 0 (by kernel_rfl)).trans rfl
        unfold Oper.wp
        go_simp
        exact Stepped.at (v := .pointer (some ⟨S, 0, none⟩)) (by first | rfl | simp) hd (Below.refl _ _) rfl
      · intro a wx hb hd hs ho hp
        refine Or.inl ⟨wanted_yes rfl (yielded_at (k := 21) (d := 26) (by kernel_rfl) (show a.tmps.getD 26 undef = _ from facts_at hp 21 26 (by kernel_rfl))), ?_⟩
        have h27 : a.tmps.getD 27 undef = .pointer (some ⟨S, 0, none⟩) := facts_at hp 22 27 (by kernel_rfl)
        unfold Oper.wp
        go_simp
        exact Stepped.at (v := .pointer (some ⟨S, 0, none⟩)) (by first | rfl | simp) hd (Below.refl _ _) rfl
      · intro a wx hb hd hs ho hp
        refine Or.inl ⟨wanted_yes rfl (yielded_at (k := 21) (d := 26) (by kernel_rfl) (show a.tmps.getD 26 undef = _ from facts_at hp 21 26 (by kernel_rfl))), ?_⟩
        have h28 : a.tmps.getD 28 undef = .pointer (some ⟨S, 0, none⟩) := facts_at hp 23 28 (by kernel_rfl)
        unfold Oper.wp
        go_simp
        exact Stepped.at (v := .pointer (some ⟨S, 0, none⟩)) (by first | rfl | simp) hd (Below.refl _ _) rfl
      · intro a wx hb hd hs ho hp
        refine Or.inl ⟨wanted_yes rfl (yielded_at (k := 21) (d := 26) (by kernel_rfl) (show a.tmps.getD 26 undef = _ from facts_at hp 21 26 (by kernel_rfl))), ?_⟩
        have h29 : a.tmps.getD 29 undef = .pointer (some ⟨S, 0, none⟩) := facts_at hp 24 29 (by kernel_rfl)
        have hx := (hb.block S (Array.getElem?_eq_some_iff.1 HS.out).1).trans HS.out
        have s29 := qslot_of (hs.trans (rfl : _ = 37)) (by decide) h29
        have x0 := cells_at hx 0 _ rfl
        have x1 := cells_at hx 1 _ rfl
        have x2 := cells_at hx 2 _ rfl
        have x3 := cells_at hx 3 _ rfl
        unfold Oper.wp
        go_simp
        exact Stepped.at (v := .agg #[.slice la L.length lc, .map (some m1), .map (some m2), .map (some m3)]) (by first | rfl | simp) hd (Below.refl _ _) rfl
      · intro a wx hb hd hs ho hp
        refine Or.inl ⟨wanted_yes rfl (yielded_at (k := 21) (d := 26) (by kernel_rfl) (show a.tmps.getD 26 undef = _ from facts_at hp 21 26 (by kernel_rfl))), ?_⟩
        have h1 : a.tmps.getD 1 undef = .pointer (some ⟨T, 0, none⟩) := (ho 1 (by kernel_rfl)).trans rfl
        unfold Oper.wp
        go_simp
        exact Stepped.at (v := .pointer (some ⟨T, 0, none⟩)) (by first | rfl | simp) hd (Below.refl _ _) rfl
      · intro a wx hb hd hs ho hp
        refine Or.inl ⟨wanted_yes rfl (yielded_at (k := 21) (d := 26) (by kernel_rfl) (show a.tmps.getD 26 undef = _ from facts_at hp 21 26 (by kernel_rfl))), ?_⟩
        have h31 : a.tmps.getD 31 undef = .pointer (some ⟨T, 0, none⟩) := facts_at hp 26 31 (by kernel_rfl)
        unfold Oper.wp
        go_simp
        exact Stepped.at (v := .pointer (some ⟨T, 0, none⟩)) (by first | rfl | simp) hd (Below.refl _ _) rfl
      · intro a wx hb hd hs ho hp
        refine Or.inl ⟨wanted_yes rfl (yielded_at (k := 21) (d := 26) (by kernel_rfl) (show a.tmps.getD 26 undef = _ from facts_at hp 21 26 (by kernel_rfl))), ?_⟩
        have h32 : a.tmps.getD 32 undef = .pointer (some ⟨T, 0, none⟩) := facts_at hp 27 32 (by kernel_rfl)
        unfold Oper.wp
        go_simp
        exact Stepped.at (v := .pointer (some ⟨T, 0, none⟩)) (by first | rfl | simp) hd (Below.refl _ _) rfl
      · intro a wx hb hd hs ho hp
        refine Or.inl ⟨wanted_yes rfl (yielded_at (k := 21) (d := 26) (by kernel_rfl) (show a.tmps.getD 26 undef = _ from facts_at hp 21 26 (by kernel_rfl))), ?_⟩
        have h33 : a.tmps.getD 33 undef = .pointer (some ⟨T, 0, none⟩) := facts_at hp 28 33 (by kernel_rfl)
        have hx := (hb.block T (Array.getElem?_eq_some_iff.1 HT.out).1).trans HT.out
        have s33 := qslot_of (hs.trans (rfl : _ = 37)) (by decide) h33
        have x0 := cells_at hx 0 _ rfl
        have x1 := cells_at hx 1 _ rfl
        have x2 := cells_at hx 2 _ rfl
        have x3 := cells_at hx 3 _ rfl
        unfold Oper.wp
        go_simp
        exact Stepped.at (v := .agg #[.slice ka M.length kc, .map (some k1), .map (some k2), .map (some k3)]) (by first | rfl | simp) hd (Below.refl _ _) rfl
      · intro a wx hb hd hs ho hp
        refine Or.inl ⟨wanted_yes rfl (yielded_at (k := 21) (d := 26) (by kernel_rfl) (show a.tmps.getD 26 undef = _ from facts_at hp 21 26 (by kernel_rfl))), ?_⟩
        have h30 : a.tmps.getD 30 undef = .agg #[.slice la L.length lc, .map (some m1), .map (some m2), .map (some m3)] := facts_at hp 25 30 (by kernel_rfl)
        have h34 : a.tmps.getD 34 undef = .agg #[.slice ka M.length kc, .map (some k1), .map (some k2), .map (some k3)] := facts_at hp 29 34 (by kernel_rfl)
        unfold Oper.wp
        go_simp
        refine (within_any (L.map atB) (M.map atB) la ka L.length lc M.length kc m1 k1 (some m2) (some m3) (some k2) (some k3) q wx L.length M.length (HN1.out.keep hb) (HO1.out.keep hb) HKK.out HQ.out).mono ?_
        rintro e w9 ⟨rfl, hb9⟩
        exact Stepped.at (v := .bool q) rfl hd (hb9) rfl
      · intro a wx hb hd hs ho hp
        refine Or.inl ⟨rfl, ?_⟩
        have h26 : a.tmps.getD 26 undef = .bool true := facts_at hp 21 26 (by kernel_rfl)
        have h35 : a.tmps.getD 35 undef = .bool q := facts_at hp 30 35 (by kernel_rfl)
        unfold Oper.wp
        go_simp
        exact Stepped.at (v := .bool q) (by first | rfl | simp) hd (Below.refl _ _) rfl
      · intro a wx hb hd hs ho hp
        refine Or.inl ⟨rfl, ?_⟩
        have h36 : a.tmps.getD 36 undef = .bool q := facts_at hp 31 36 (by kernel_rfl)
        unfold Oper.wp
        go_simp
        exact Stepped.at (v := .bool q) (by first | rfl | simp) hd (Below.refl _ _) rfl
    intro ac W2 hJ
    obtain ⟨u5, f5⟩ : ∃ u, ac.tmps.getD 5 undef = u := ⟨_, rfl⟩
    obtain ⟨u6, f6⟩ : ∃ u, ac.tmps.getD 6 undef = u := ⟨_, rfl⟩
    obtain ⟨u7, f7⟩ : ∃ u, ac.tmps.getD 7 undef = u := ⟨_, rfl⟩
    obtain ⟨u8, f8⟩ : ∃ u, ac.tmps.getD 8 undef = u := ⟨_, rfl⟩
    obtain ⟨u9, f9⟩ : ∃ u, ac.tmps.getD 9 undef = u := ⟨_, rfl⟩
    obtain ⟨u10, f10⟩ : ∃ u, ac.tmps.getD 10 undef = u := ⟨_, rfl⟩
    obtain ⟨u11, f11⟩ : ∃ u, ac.tmps.getD 11 undef = u := ⟨_, rfl⟩
    obtain ⟨u12, f12⟩ : ∃ u, ac.tmps.getD 12 undef = u := ⟨_, rfl⟩
    obtain ⟨u13, f13⟩ : ∃ u, ac.tmps.getD 13 undef = u := ⟨_, rfl⟩
    obtain ⟨u14, f14⟩ : ∃ u, ac.tmps.getD 14 undef = u := ⟨_, rfl⟩
    obtain ⟨u15, f15⟩ : ∃ u, ac.tmps.getD 15 undef = u := ⟨_, rfl⟩
    obtain ⟨u16, f16⟩ : ∃ u, ac.tmps.getD 16 undef = u := ⟨_, rfl⟩
    obtain ⟨u17, f17⟩ : ∃ u, ac.tmps.getD 17 undef = u := ⟨_, rfl⟩
    obtain ⟨u18, f18⟩ : ∃ u, ac.tmps.getD 18 undef = u := ⟨_, rfl⟩
    obtain ⟨u19, f19⟩ : ∃ u, ac.tmps.getD 19 undef = u := ⟨_, rfl⟩
    obtain ⟨u20, f20⟩ : ∃ u, ac.tmps.getD 20 undef = u := ⟨_, rfl⟩
    obtain ⟨u21, f21⟩ : ∃ u, ac.tmps.getD 21 undef = u := ⟨_, rfl⟩
    obtain ⟨u22, f22⟩ : ∃ u, ac.tmps.getD 22 undef = u := ⟨_, rfl⟩
    obtain ⟨u23, f23⟩ : ∃ u, ac.tmps.getD 23 undef = u := ⟨_, rfl⟩
    obtain ⟨u24, f24⟩ : ∃ u, ac.tmps.getD 24 undef = u := ⟨_, rfl⟩
    obtain ⟨u25, f25⟩ : ∃ u, ac.tmps.getD 25 undef = u := ⟨_, rfl⟩
    obtain ⟨u26, f26⟩ : ∃ u, ac.tmps.getD 26 undef = u := ⟨_, rfl⟩
    obtain ⟨u27, f27⟩ : ∃ u, ac.tmps.getD 27 undef = u := ⟨_, rfl⟩
    obtain ⟨u28, f28⟩ : ∃ u, ac.tmps.getD 28 undef = u := ⟨_, rfl⟩
    obtain ⟨u29, f29⟩ : ∃ u, ac.tmps.getD 29 undef = u := ⟨_, rfl⟩
    obtain ⟨u30, f30⟩ : ∃ u, ac.tmps.getD 30 undef = u := ⟨_, rfl⟩
    obtain ⟨u31, f31⟩ : ∃ u, ac.tmps.getD 31 undef = u := ⟨_, rfl⟩
    obtain ⟨u32, f32⟩ : ∃ u, ac.tmps.getD 32 undef = u := ⟨_, rfl⟩
    obtain ⟨u33, f33⟩ : ∃ u, ac.tmps.getD 33 undef = u := ⟨_, rfl⟩
    obtain ⟨u34, f34⟩ : ∃ u, ac.tmps.getD 34 undef = u := ⟨_, rfl⟩
    obtain ⟨u35, f35⟩ : ∃ u, ac.tmps.getD 35 undef = u := ⟨_, rfl⟩
    obtain ⟨u36, f36⟩ : ∃ u, ac.tmps.getD 36 undef = u := ⟨_, rfl⟩
    have f4 : ac.tmps.getD 4 undef = .bool q := hJ.at_end 32 4 (by kernel_rfl)
    have hBelow := hJ.below
    obtain ⟨TT, DD⟩ := ac
    obtain rfl : DD = [] := hJ.defers
    have hE := slots_merge [false, false, false, false, true, true, true, true, true, true, true, true, true, true, true, true, true, true, true, true, true, true, true, true, true, true, true, true, true, true, true, true, true, true, true, true, true] 37 hJ.tmps rfl (by kernel_rfl) hJ.outer
    simp only [mergeFrom, Nat.zero_add, Nat.reduceAdd, f5, f6, f7, f8, f9, f10, f11, f12, f13, f14, f15, f16, f17, f18, f19, f20, f21, f22, f23, f24, f25, f26, f27, f28, f29, f30, f31, f32, f33, f34, f35, f36, f4] at hE
    clear hst hJ f5 f6 f7 f8 f9 f10 f11 f12 f13 f14 f15 f16 f17 f18 f19 f20 f21 f22 f23 f24 f25 f26 f27 f28 f29 f30 f31 f32 f33 f34 f35 f36 f4
    subst hE
    have HBW := Lib.hid hBelow
    clear hBelow
    go_wp2
    go_ret
    exact ⟨rfl, HBW.out⟩
  · obtain rfl : q = false := by
      cases hqq : q with
      | false => rfl
      | true => exact absurd (hq.1 hqq).1 hlen
    have hle : ((L.length : Int) == (M.length : Int)) = false := by simp; omega
    have HNM := Lib.hid hlen
    clear hI hJ h0 g0 n1 o1 hl hkk hki hq hlen
    go_enter Tryz.func27, Tryz.ntmps27
    go_wp2_with fail
    have hst := @FL_grow [fV (.pointer (some ⟨S, 0, none⟩)), fV (.bool true), fV (.bool true), fV (.pointer (some ⟨T, 0, none⟩)), fV (.bool true), fV (.bool true), fV (.bool true), fV (.pointer (some ⟨S, 0, none⟩)), fV (.pointer (some ⟨S, 0, none⟩)), fV (.pointer (some ⟨S, 0, none⟩)), fV (.pointer (some ⟨S, 0, none⟩)), fV (.slice la L.length lc), fV (.int .i64 L.length), fV (.pointer (some ⟨T, 0, none⟩)), fV (.pointer (some ⟨T, 0, none⟩)), fV (.pointer (some ⟨T, 0, none⟩)), fV (.pointer (some ⟨T, 0, none⟩)), fV (.slice ka M.length kc), fV (.int .i64 M.length), fV (.bool false), fV (.bool false), fV (.bool false), fV undef, fV undef, fV undef, fV undef, fV undef, fV undef, fV undef, fV undef, fV undef, fV (.bool false), fV (.bool false)] (by
      intro F hF
      simp only [List.mem_cons, List.not_mem_nil, or_false] at hF
      rcases hF with rfl | rfl | rfl | rfl | rfl | rfl | rfl | rfl | rfl | rfl | rfl | rfl | rfl | rfl | rfl | rfl | rfl | rfl | rfl | rfl | rfl | rfl | rfl | rfl | rfl | rfl | rfl | rfl | rfl | rfl | rfl | rfl | rfl <;> first | exact fV_stays _)
    refine wp_region_grow_orB (by kernel_rfl) (FL [fV (.pointer (some ⟨S, 0, none⟩)), fV (.bool true), fV (.bool true), fV (.pointer (some ⟨T, 0, none⟩)), fV (.bool true), fV (.bool true), fV (.bool true), fV (.pointer (some ⟨S, 0, none⟩)), fV (.pointer (some ⟨S, 0, none⟩)), fV (.pointer (some ⟨S, 0, none⟩)), fV (.pointer (some ⟨S, 0, none⟩)), fV (.slice la L.length lc), fV (.int .i64 L.length), fV (.pointer (some ⟨T, 0, none⟩)), fV (.pointer (some ⟨T, 0, none⟩)), fV (.pointer (some ⟨T, 0, none⟩)), fV (.pointer (some ⟨T, 0, none⟩)), fV (.slice ka M.length kc), fV (.int .i64 M.length), fV (.bool false), fV (.bool false), fV (.bool false), fV undef, fV undef, fV undef, fV undef, fV undef, fV undef, fV undef, fV undef, fV undef, fV (.bool false), fV (.bool false)]) hst (by kernel_rfl) (steps_or ?_) ?_
    · refine ⟨?_, ?_, ?_, ?_, ?_, ?_, ?_, ?_, ?_, ?_, ?_, ?_, ?_, ?_, ?_, ?_, ?_, ?_, ?_, ?_, ?_, ?_, ?_, ?_, ?_, ?_, ?_, ?_, ?_, ?_, ?_, ?_, ?_, trivial⟩
      · intro a wx hb hd hs ho hp
        refine Or.inl ⟨rfl, ?_⟩
        have h0 : a.tmps.getD 0 undef = .pointer (some ⟨S, 0, none⟩) := (ho 0 (by kernel_rfl)).trans rfl
        unfold Oper.wp
        go_simp
        exact Stepped.at (v := .pointer (some ⟨S, 0, none⟩)) (by first | rfl | simp) hd (Below.refl _ _) rfl
      · intro a wx hb hd hs ho hp
        refine Or.inl ⟨rfl, ?_⟩
        have h5 : a.tmps.getD 5 undef = .pointer (some ⟨S, 0, none⟩) := facts_at hp 0 5 (by kernel_rfl)
        unfold Oper.wp
        go_simp
        refine (made_row S _ _ _ _ wx ((hb.block S (Array.getElem?_eq_some_iff.1 HS.out).1).trans HS.out)).mono ?_
        rintro e w9 ⟨rfl, hw9⟩
        exact Stepped.at (v := .bool true) rfl hd ((by rw [hw9]; exact Below.refl _ _)) rfl
      · intro a wx hb hd hs ho hp
        refine Or.inl ⟨rfl, ?_⟩
        have h6 : a.tmps.getD 6 undef = .bool true := facts_at hp 1 6 (by kernel_rfl)
        unfold Oper.wp
        go_simp
        exact Stepped.at (v := .bool true) (by first | rfl | simp) hd (Below.refl _ _) rfl
      · intro a wx hb hd hs ho hp
        refine Or.inl ⟨wanted_yes rfl (yielded_at (k := 2) (d := 7) (by kernel_rfl) (show a.tmps.getD 7 undef = _ from facts_at hp 2 7 (by kernel_rfl))), ?_⟩
        have h1 : a.tmps.getD 1 undef = .pointer (some ⟨T, 0, none⟩) := (ho 1 (by kernel_rfl)).trans rfl
        unfold Oper.wp
        go_simp
        exact Stepped.at (v := .pointer (some ⟨T, 0, none⟩)) (by first | rfl | simp) hd (Below.refl _ _) rfl
      · intro a wx hb hd hs ho hp
        refine Or.inl ⟨wanted_yes rfl (yielded_at (k := 2) (d := 7) (by kernel_rfl) (show a.tmps.getD 7 undef = _ from facts_at hp 2 7 (by kernel_rfl))), ?_⟩
        have h8 : a.tmps.getD 8 undef = .pointer (some ⟨T, 0, none⟩) := facts_at hp 3 8 (by kernel_rfl)
        unfold Oper.wp
        go_simp
        refine (made_row T _ _ _ _ wx ((hb.block T (Array.getElem?_eq_some_iff.1 HT.out).1).trans HT.out)).mono ?_
        rintro e w9 ⟨rfl, hw9⟩
        exact Stepped.at (v := .bool true) rfl hd ((by rw [hw9]; exact Below.refl _ _)) rfl
      · intro a wx hb hd hs ho hp
        refine Or.inl ⟨rfl, ?_⟩
        have h7 : a.tmps.getD 7 undef = .bool true := facts_at hp 2 7 (by kernel_rfl)
        have h9 : a.tmps.getD 9 undef = .bool true := facts_at hp 4 9 (by kernel_rfl)
        unfold Oper.wp
        go_simp
        exact Stepped.at (v := .bool true) (by first | rfl | simp) hd (Below.refl _ _) rfl
      · intro a wx hb hd hs ho hp
        refine Or.inl ⟨rfl, ?_⟩
        have h10 : a.tmps.getD 10 undef = .bool true := facts_at hp 5 10 (by kernel_rfl)
        unfold Oper.wp
        go_simp
        exact Stepped.at (v := .bool true) (by first | rfl | simp) hd (Below.refl _ _) rfl
      · intro a wx hb hd hs ho hp
        refine Or.inl ⟨wanted_yes rfl (yielded_at (k := 6) (d := 11) (by kernel_rfl) (show a.tmps.getD 11 undef = _ from facts_at hp 6 11 (by kernel_rfl))), ?_⟩
        have h0 : a.tmps.getD 0 undef = .pointer (some ⟨S, 0, none⟩) := (ho 0 (by kernel_rfl)).trans rfl
        unfold Oper.wp
        go_simp
        exact Stepped.at (v := .pointer (some ⟨S, 0, none⟩)) (by first | rfl | simp) hd (Below.refl _ _) rfl
      · intro a wx hb hd hs ho hp
        refine Or.inl ⟨wanted_yes rfl (yielded_at (k := 6) (d := 11) (by kernel_rfl) (show a.tmps.getD 11 undef = _ from facts_at hp 6 11 (by kernel_rfl))), ?_⟩
        have h12 : a.tmps.getD 12 undef = .pointer (some ⟨S, 0, none⟩) := facts_at hp 7 12 (by kernel_rfl)
        unfold Oper.wp
        go_simp
        exact Stepped.at (v := .pointer (some ⟨S, 0, none⟩)) (by first | rfl | simp) hd (Below.refl _ _) rfl
      · intro a wx hb hd hs ho hp
        refine Or.inl ⟨wanted_yes rfl (yielded_at (k := 6) (d := 11) (by kernel_rfl) (show a.tmps.getD 11 undef = _ from facts_at hp 6 11 (by kernel_rfl))), ?_⟩
        have h13 : a.tmps.getD 13 undef = .pointer (some ⟨S, 0, none⟩) := facts_at hp 8 13 (by kernel_rfl)
        unfold Oper.wp
        go_simp
        exact Stepped.at (v := .pointer (some ⟨S, 0, none⟩)) (by first | rfl | simp) hd (Below.refl _ _) rfl
      · intro a wx hb hd hs ho hp
        refine Or.inl ⟨wanted_yes rfl (yielded_at (k := 6) (d := 11) (by kernel_rfl) (show a.tmps.getD 11 undef = _ from facts_at hp 6 11 (by kernel_rfl))), ?_⟩
        have h14 : a.tmps.getD 14 undef = .pointer (some ⟨S, 0, none⟩) := facts_at hp 9 14 (by kernel_rfl)
        unfold Oper.wp
        go_simp
        exact Stepped.at (v := .pointer (some ⟨S, 0, none⟩)) (by first | rfl | simp) hd (Below.refl _ _) rfl
      · intro a wx hb hd hs ho hp
        refine Or.inl ⟨wanted_yes rfl (yielded_at (k := 6) (d := 11) (by kernel_rfl) (show a.tmps.getD 11 undef = _ from facts_at hp 6 11 (by kernel_rfl))), ?_⟩
        have h15 : a.tmps.getD 15 undef = .pointer (some ⟨S, 0, none⟩) := facts_at hp 10 15 (by kernel_rfl)
        have hx := (hb.block S (Array.getElem?_eq_some_iff.1 HS.out).1).trans HS.out
        have x0 := cells_at hx 0 _ rfl
        unfold Oper.wp
        go_simp
        exact Stepped.at (v := .slice la L.length lc) (by first | rfl | simp) hd (Below.refl _ _) rfl
      · intro a wx hb hd hs ho hp
        refine Or.inl ⟨wanted_yes rfl (yielded_at (k := 6) (d := 11) (by kernel_rfl) (show a.tmps.getD 11 undef = _ from facts_at hp 6 11 (by kernel_rfl))), ?_⟩
        have h16 : a.tmps.getD 16 undef = .slice la L.length lc := facts_at hp 11 16 (by kernel_rfl)
        unfold Oper.wp
        go_simp
        refine (count_any _ la L.length lc rfl wx).mono ?_
        rintro e w9 ⟨rfl, hw9⟩
        exact Stepped.at (v := .int .i64 L.length) rfl hd ((by rw [hw9]; exact Below.refl _ _)) rfl
      · intro a wx hb hd hs ho hp
        refine Or.inl ⟨wanted_yes rfl (yielded_at (k := 6) (d := 11) (by kernel_rfl) (show a.tmps.getD 11 undef = _ from facts_at hp 6 11 (by kernel_rfl))), ?_⟩
        have h1 : a.tmps.getD 1 undef = .pointer (some ⟨T, 0, none⟩) := (ho 1 (by kernel_rfl)).trans rfl
        unfold Oper.wp
        go_simp
        exact Stepped.at (v := .pointer (some ⟨T, 0, none⟩)) (by first | rfl | simp) hd (Below.refl _ _) rfl
      · intro a wx hb hd hs ho hp
        refine Or.inl ⟨wanted_yes rfl (yielded_at (k := 6) (d := 11) (by kernel_rfl) (show a.tmps.getD 11 undef = _ from facts_at hp 6 11 (by kernel_rfl))), ?_⟩
        have h18 : a.tmps.getD 18 undef = .pointer (some ⟨T, 0, none⟩) := facts_at hp 13 18 (by kernel_rfl)
        unfold Oper.wp
        go_simp
        exact Stepped.at (v := .pointer (some ⟨T, 0, none⟩)) (by first | rfl | simp) hd (Below.refl _ _) rfl
      · intro a wx hb hd hs ho hp
        refine Or.inl ⟨wanted_yes rfl (yielded_at (k := 6) (d := 11) (by kernel_rfl) (show a.tmps.getD 11 undef = _ from facts_at hp 6 11 (by kernel_rfl))), ?_⟩
        have h19 : a.tmps.getD 19 undef = .pointer (some ⟨T, 0, none⟩) := facts_at hp 14 19 (by kernel_rfl)
        unfold Oper.wp
        go_simp
        exact Stepped.at (v := .pointer (some ⟨T, 0, none⟩)) (by first | rfl | simp) hd (Below.refl _ _) rfl
      · intro a wx hb hd hs ho hp
        refine Or.inl ⟨wanted_yes rfl (yielded_at (k := 6) (d := 11) (by kernel_rfl) (show a.tmps.getD 11 undef = _ from facts_at hp 6 11 (by kernel_rfl))), ?_⟩
        have h20 : a.tmps.getD 20 undef = .pointer (some ⟨T, 0, none⟩) := facts_at hp 15 20 (by kernel_rfl)
        unfold Oper.wp
        go_simp
        exact Stepped.at (v := .pointer (some ⟨T, 0, none⟩)) (by first | rfl | simp) hd (Below.refl _ _) rfl
      · intro a wx hb hd hs ho hp
        refine Or.inl ⟨wanted_yes rfl (yielded_at (k := 6) (d := 11) (by kernel_rfl) (show a.tmps.getD 11 undef = _ from facts_at hp 6 11 (by kernel_rfl))), ?_⟩
        have h21 : a.tmps.getD 21 undef = .pointer (some ⟨T, 0, none⟩) := facts_at hp 16 21 (by kernel_rfl)
        have hx := (hb.block T (Array.getElem?_eq_some_iff.1 HT.out).1).trans HT.out
        have x0 := cells_at hx 0 _ rfl
        unfold Oper.wp
        go_simp
        exact Stepped.at (v := .slice ka M.length kc) (by first | rfl | simp) hd (Below.refl _ _) rfl
      · intro a wx hb hd hs ho hp
        refine Or.inl ⟨wanted_yes rfl (yielded_at (k := 6) (d := 11) (by kernel_rfl) (show a.tmps.getD 11 undef = _ from facts_at hp 6 11 (by kernel_rfl))), ?_⟩
        have h22 : a.tmps.getD 22 undef = .slice ka M.length kc := facts_at hp 17 22 (by kernel_rfl)
        unfold Oper.wp
        go_simp
        refine (count_any _ ka M.length kc rfl wx).mono ?_
        rintro e w9 ⟨rfl, hw9⟩
        exact Stepped.at (v := .int .i64 M.length) rfl hd ((by rw [hw9]; exact Below.refl _ _)) rfl
      · intro a wx hb hd hs ho hp
        refine Or.inl ⟨wanted_yes rfl (yielded_at (k := 6) (d := 11) (by kernel_rfl) (show a.tmps.getD 11 undef = _ from facts_at hp 6 11 (by kernel_rfl))), ?_⟩
        have h17 : a.tmps.getD 17 undef = .int .i64 L.length := facts_at hp 12 17 (by kernel_rfl)
        have h23 : a.tmps.getD 23 undef = .int .i64 M.length := facts_at hp 18 23 (by kernel_rfl)
        unfold Oper.wp
        go_simp
        exact Stepped.at (v := .bool false) (by first | rfl | simp) hd (Below.refl _ _) rfl
      · intro a wx hb hd hs ho hp
        refine Or.inl ⟨rfl, ?_⟩
        have h11 : a.tmps.getD 11 undef = .bool true := facts_at hp 6 11 (by kernel_rfl)
        have h24 : a.tmps.getD 24 undef = .bool false := facts_at hp 19 24 (by kernel_rfl)
        unfold Oper.wp
        go_simp
        exact Stepped.at (v := .bool false) (by first | rfl | simp) hd (Below.refl _ _) rfl
      · intro a wx hb hd hs ho hp
        refine Or.inl ⟨rfl, ?_⟩
        have h25 : a.tmps.getD 25 undef = .bool false := facts_at hp 20 25 (by kernel_rfl)
        unfold Oper.wp
        go_simp
        exact Stepped.at (v := .bool false) (by first | rfl | simp) hd (Below.refl _ _) rfl
      · intro a wx hb hd hs ho hp
        exact Or.inr ⟨wanted_no rfl (yielded_at (k := 21) (d := 26) (by kernel_rfl) (show a.tmps.getD 26 undef = _ from facts_at hp 21 26 (by kernel_rfl))), fun _ _ => rfl⟩
      · intro a wx hb hd hs ho hp
        exact Or.inr ⟨wanted_no rfl (yielded_at (k := 21) (d := 26) (by kernel_rfl) (show a.tmps.getD 26 undef = _ from facts_at hp 21 26 (by kernel_rfl))), fun _ _ => rfl⟩
      · intro a wx hb hd hs ho hp
        exact Or.inr ⟨wanted_no rfl (yielded_at (k := 21) (d := 26) (by kernel_rfl) (show a.tmps.getD 26 undef = _ from facts_at hp 21 26 (by kernel_rfl))), fun _ _ => rfl⟩
      · intro a wx hb hd hs ho hp
        exact Or.inr ⟨wanted_no rfl (yielded_at (k := 21) (d := 26) (by kernel_rfl) (show a.tmps.getD 26 undef = _ from facts_at hp 21 26 (by kernel_rfl))), fun _ _ => rfl⟩
      · intro a wx hb hd hs ho hp
        exact Or.inr ⟨wanted_no rfl (yielded_at (k := 21) (d := 26) (by kernel_rfl) (show a.tmps.getD 26 undef = _ from facts_at hp 21 26 (by kernel_rfl))), fun _ _ => rfl⟩
      · intro a wx hb hd hs ho hp
        exact Or.inr ⟨wanted_no rfl (yielded_at (k := 21) (d := 26) (by kernel_rfl) (show a.tmps.getD 26 undef = _ from facts_at hp 21 26 (by kernel_rfl))), fun _ _ => rfl⟩
      · intro a wx hb hd hs ho hp
        exact Or.inr ⟨wanted_no rfl (yielded_at (k := 21) (d := 26) (by kernel_rfl) (show a.tmps.getD 26 undef = _ from facts_at hp 21 26 (by kernel_rfl))), fun _ _ => rfl⟩
      · intro a wx hb hd hs ho hp
        exact Or.inr ⟨wanted_no rfl (yielded_at (k := 21) (d := 26) (by kernel_rfl) (show a.tmps.getD 26 undef = _ from facts_at hp 21 26 (by kernel_rfl))), fun _ _ => rfl⟩
      · intro a wx hb hd hs ho hp
        exact Or.inr ⟨wanted_no rfl (yielded_at (k := 21) (d := 26) (by kernel_rfl) (show a.tmps.getD 26 undef = _ from facts_at hp 21 26 (by kernel_rfl))), fun _ _ => rfl⟩
      · intro a wx hb hd hs ho hp
        refine Or.inl ⟨rfl, ?_⟩
        have h26 : a.tmps.getD 26 undef = .bool false := facts_at hp 21 26 (by kernel_rfl)
        have h35 : a.tmps.getD 35 undef = undef := facts_at hp 30 35 (by kernel_rfl)
        unfold Oper.wp
        go_simp
        exact Stepped.at (v := .bool false) (by first | rfl | simp) hd (Below.refl _ _) rfl
      · intro a wx hb hd hs ho hp
        refine Or.inl ⟨rfl, ?_⟩
        have h36 : a.tmps.getD 36 undef = .bool false := facts_at hp 31 36 (by kernel_rfl)
        unfold Oper.wp
        go_simp
        exact Stepped.at (v := .bool false) (by first | rfl | simp) hd (Below.refl _ _) rfl
    intro ac W2 hJ
    obtain ⟨u5, f5⟩ : ∃ u, ac.tmps.getD 5 undef = u := ⟨_, rfl⟩
    obtain ⟨u6, f6⟩ : ∃ u, ac.tmps.getD 6 undef = u := ⟨_, rfl⟩
    obtain ⟨u7, f7⟩ : ∃ u, ac.tmps.getD 7 undef = u := ⟨_, rfl⟩
    obtain ⟨u8, f8⟩ : ∃ u, ac.tmps.getD 8 undef = u := ⟨_, rfl⟩
    obtain ⟨u9, f9⟩ : ∃ u, ac.tmps.getD 9 undef = u := ⟨_, rfl⟩
    obtain ⟨u10, f10⟩ : ∃ u, ac.tmps.getD 10 undef = u := ⟨_, rfl⟩
    obtain ⟨u11, f11⟩ : ∃ u, ac.tmps.getD 11 undef = u := ⟨_, rfl⟩
    obtain ⟨u12, f12⟩ : ∃ u, ac.tmps.getD 12 undef = u := ⟨_, rfl⟩
    obtain ⟨u13, f13⟩ : ∃ u, ac.tmps.getD 13 undef = u := ⟨_, rfl⟩
    obtain ⟨u14, f14⟩ : ∃ u, ac.tmps.getD 14 undef = u := ⟨_, rfl⟩
    obtain ⟨u15, f15⟩ : ∃ u, ac.tmps.getD 15 undef = u := ⟨_, rfl⟩
    obtain ⟨u16, f16⟩ : ∃ u, ac.tmps.getD 16 undef = u := ⟨_, rfl⟩
    obtain ⟨u17, f17⟩ : ∃ u, ac.tmps.getD 17 undef = u := ⟨_, rfl⟩
    obtain ⟨u18, f18⟩ : ∃ u, ac.tmps.getD 18 undef = u := ⟨_, rfl⟩
    obtain ⟨u19, f19⟩ : ∃ u, ac.tmps.getD 19 undef = u := ⟨_, rfl⟩
    obtain ⟨u20, f20⟩ : ∃ u, ac.tmps.getD 20 undef = u := ⟨_, rfl⟩
    obtain ⟨u21, f21⟩ : ∃ u, ac.tmps.getD 21 undef = u := ⟨_, rfl⟩
    obtain ⟨u22, f22⟩ : ∃ u, ac.tmps.getD 22 undef = u := ⟨_, rfl⟩
    obtain ⟨u23, f23⟩ : ∃ u, ac.tmps.getD 23 undef = u := ⟨_, rfl⟩
    obtain ⟨u24, f24⟩ : ∃ u, ac.tmps.getD 24 undef = u := ⟨_, rfl⟩
    obtain ⟨u25, f25⟩ : ∃ u, ac.tmps.getD 25 undef = u := ⟨_, rfl⟩
    obtain ⟨u26, f26⟩ : ∃ u, ac.tmps.getD 26 undef = u := ⟨_, rfl⟩
    obtain ⟨u27, f27⟩ : ∃ u, ac.tmps.getD 27 undef = u := ⟨_, rfl⟩
    obtain ⟨u28, f28⟩ : ∃ u, ac.tmps.getD 28 undef = u := ⟨_, rfl⟩
    obtain ⟨u29, f29⟩ : ∃ u, ac.tmps.getD 29 undef = u := ⟨_, rfl⟩
    obtain ⟨u30, f30⟩ : ∃ u, ac.tmps.getD 30 undef = u := ⟨_, rfl⟩
    obtain ⟨u31, f31⟩ : ∃ u, ac.tmps.getD 31 undef = u := ⟨_, rfl⟩
    obtain ⟨u32, f32⟩ : ∃ u, ac.tmps.getD 32 undef = u := ⟨_, rfl⟩
    obtain ⟨u33, f33⟩ : ∃ u, ac.tmps.getD 33 undef = u := ⟨_, rfl⟩
    obtain ⟨u34, f34⟩ : ∃ u, ac.tmps.getD 34 undef = u := ⟨_, rfl⟩
    obtain ⟨u35, f35⟩ : ∃ u, ac.tmps.getD 35 undef = u := ⟨_, rfl⟩
    obtain ⟨u36, f36⟩ : ∃ u, ac.tmps.getD 36 undef = u := ⟨_, rfl⟩
    have f4 : ac.tmps.getD 4 undef = .bool false := hJ.at_end 32 4 (by kernel_rfl)
    have hBelow := hJ.below
    obtain ⟨TT, DD⟩ := ac
    obtain rfl : DD = [] := hJ.defers
    have hE := slots_merge [false, false, false, false, true, true, true, true, true, true, true, true, true, true, true, true, true, true, true, true, true, true, true, true, true, true, true, true, true, true, true, true, true, true, true, true, true] 37 hJ.tmps rfl (by kernel_rfl) hJ.outer
    simp only [mergeFrom, Nat.zero_add, Nat.reduceAdd, f5, f6, f7, f8, f9, f10, f11, f12, f13, f14, f15, f16, f17, f18, f19, f20, f21, f22, f23, f24, f25, f26, f27, f28, f29, f30, f31, f32, f33, f34, f35, f36, f4] at hE
    clear hst hJ f5 f6 f7 f8 f9 f10 f11 f12 f13 f14 f15 f16 f17 f18 f19 f20 f21 f22 f23 f24 f25 f26 f27 f28 f29 f30 f31 f32 f33 f34 f35 f36 f4
    subst hE
    have HBW := Lib.hid hBelow
    clear hBelow
    go_wp2
    go_ret
    exact ⟨rfl, HBW.out⟩
end Go.Proofs.YtcoieohbmkjpoaaGreatDoor
